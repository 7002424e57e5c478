/- Contracts of the reference of layer 3: Fit. · The iterator of slices.Chunk over a list of numbers. · Contracts of layer 3: Thin where its arguments are allowed. · Contracts of layer 3: Thin of whatever arguments. · Contracts of layer 3: what Thin and the reference's Thin hand back. · Contracts of the reference of layer 3: Thin. · Plain facts of the reference's Rest: fractions in lowest terms, the common denominator of the line, the sum of the rests times the phases. · Contracts of the reference of layer 3: Rest. · The walk over the law StabilityFits. -/
import Derived.Test.YthkndjkgokojmaaRb
import Derived.Test.YthkndjkgokojmaaStD
import Derived.Test.YthkndjkgokojmaaStG
import Derived.Test.YthkndjkgokojmaaStS
import Derived.Test.YthkndjkgokojmaaQc
import Derived.Test.YthkndjkgokojmaaPc
import Derived.Test.YthkndjkgokojmaaRf
import Derived.Deep.CutRange
import Derived.Test.YthkndjkgokojmaaRh
namespace Go.Proofs.Ythkndjkgokojmaa
open Go Go.RowKit Go.Shelf
def iS (k : Nat) : Int := sumF (fun i => (i : Int)) k
def iiS (k : Nat) : Int := sumF (fun i => (i : Int) * i) k
def imS (l : List Int) (k : Nat) : Int := sumF (fun i => (i : Int) * atL l i) k
theorem places_all : (List.range 129).all (fun n => decide (iS n = placesS n) && decide (iiS n = squaresS n)) = true := by decide +kernel
theorem iS_eq {n : Nat} (h : n ≤ 128) : iS n = placesS n ∧ iiS n = squaresS n := by
  have := List.all_eq_true.1 places_all n (by simp; omega)
  simpa using this
structure FitBd (l : List Int) (k : Nat) : Prop where
  a : -16384 ≤ iS k ∧ iS k ≤ 16384
  b : -2097152 ≤ iiS k ∧ iiS k ≤ 2097152
  c : -128000000 ≤ sumF (atL l) k ∧ sumF (atL l) k ≤ 128000000
  d : -16384000000 ≤ imS l k ∧ imS l k ≤ 16384000000
theorem fitBd {l : List Int} (hp : phasesOk l = true) {k : Nat} (hk : k ≤ 128) : FitBd l k := by
  have h1 := sumF_bd (fun i => (i : Int)) 128 k (fun i hi => by omega)
  have h2 := sumF_bd (fun i => (i : Int) * i) 16384 k (fun i hi => by
    have := mul_bd2 (x := (i : Int)) (y := (i : Int)) (a := 128) (b := 128) (by omega) (by omega); omega)
  have h3 := sumF_bd (atL l) 1000000 k (fun i _ => atL_bd hp i)
  have h4 := sumF_bd (fun i => (i : Int) * atL l i) 128000000 k (fun i hi => by
    have := mul_bd' (atL l i) (i : Int) 1000000 128 (by omega) (atL_bd hp i); omega)
  refine ⟨?_, ?_, ?_, ?_⟩
  · unfold iS; omega
  · unfold iiS; omega
  · omega
  · unfold imS; omega
set_option maxRecDepth 100000 in
set_option maxHeartbeats 4000000 in
theorem rfit_any (tau : Int) (l : List Int) (p : Option Addr) (cap : Nat) (w : World) (hs : SerIn w l p) :
    Calls Try.prog 38 #[.agg #[.int .i64 tau, .slice p l.length cap]] w fun e w' => e = .returned (.tuple #[lineVal (fitE tau l).a (fitE tau l).b (fitE tau l).c (fitE tau l).d, .int .i64 (fitE tau l).e]) ∧ Below w.heap.size w w' := by
  have hl := hs.1
  unfold maxLen at hl
  have a0 : Below w.heap.size w ((w.alloc (.cells #[.int .i64 tau, .slice p l.length cap] 63)).alloc (.cells #[.int .i64 0, .int .i64 0, .int .i64 0, .int .i64 0] 71)) := below_alloc (below_alloc (Below.refl _ _) _) _
  have x1 : Hid (((w.alloc (.cells #[.int .i64 tau, .slice p l.length cap] 63)).alloc (.cells #[.int .i64 0, .int .i64 0, .int .i64 0, .int .i64 0] 71)).cell? ⟨w.heap.size, 1, none⟩ = some (.slice p l.length cap)) := Lib.hid (by simp)
  have HR := Lib.hid (show Four ((w.alloc (.cells #[.int .i64 tau, .slice p l.length cap] 63)).alloc (.cells #[.int .i64 0, .int .i64 0, .int .i64 0, .int .i64 0] 71)) (w.heap.size + 1) from ⟨by simp, by simp, by simp, by simp, by simp, by simp, by simp, by simp⟩)
  have HC := Lib.hid (rcheck_any tau l p cap _ (hs.below a0))
  have HS := Lib.hid (hs.below a0)
  have A0 := Lib.hid a0
  have hge : w.heap.size ≤ w.heap.size + 1 := by omega
  clear hs a0
  by_cases h0 : checkSt tau l = 0
  · by_cases h2 : l.length < 2
    · have hfe : fitErr tau l = 4 := by unfold fitErr; rw [if_pos h0, if_pos h2]
      have hE : fitE tau l = ⟨0, 0, 0, 0, 4⟩ := by unfold fitE; rw [if_neg (by omega), hfe]
      have h2i : (l.length : Int) < 2 := by omega
      have H0 := Lib.hid h0
      rw [hE]
      unfold lineVal
      dsimp only
      clear hfe hE h0
      go_enter Try.func38, Try.ntmps38
      go_wp2_with fail
      refine HC.out.mono ?_
      rintro e w1 ⟨rfl, hb⟩
      rw [H0.out]
      have y1 := cell_below hb x1.out
      have hz := cell_lt y1
      have HR1 := Lib.hid (HR.out.below hb)
      have HB := Lib.hid (A0.out.trans (hb.mono A0.out.size))
      obtain ⟨b0, b1, b2, b3, f0, f1, f2, f3⟩ := HR1.out
      have hz2 := cell_lt b0
      have g0 := HR1.out.s0 (.int .i64 0)
      have g1 := HR1.out.s1 (.int .i64 0) (.int .i64 0)
      have g2 := HR1.out.s2 (.int .i64 0) (.int .i64 0) (.int .i64 0)
      have g3 := HR1.out.s3 (.int .i64 0) (.int .i64 0) (.int .i64 0) (.int .i64 0)
      clear hb
      go_wp2
      exact bodyPost_ret (v := .tuple #[.agg #[.int .i64 0, .int .i64 0, .int .i64 0, .int .i64 0], .int .i64 4]) (by simp [results, Try.results38, go_sem, g0, g1, g2, g3]) rfl ⟨rfl, below4 _ _ _ _ HB.out hge⟩
    · have hfe : fitErr tau l = 0 := by unfold fitErr; rw [if_pos h0, if_neg h2]
      have hE : fitE tau l = ⟨lowN (offN l) (detS l.length), lowD (offN l) (detS l.length), lowN (sloN l) (detS l.length), lowD (sloN l) (detS l.length), 0⟩ := by unfold fitE; rw [if_pos hfe]
      obtain ⟨h128, ht, hp⟩ := checkSt_zero h0
      have h2i : ¬ ((l.length : Int) < 2) := by omega
      have H0 := Lib.hid h0
      rw [hE]
      have ln := lineNums l.length (by omega) h128
      have hb := fitBd hp h128
      obtain ⟨ei, eii⟩ := iS_eq h128
      have e1 : sumF (atL l) l.length = totalL l := rfl
      have e2 : imS l l.length = momL l := rfl
      obtain ⟨ba, bb, bc, bd⟩ := hb
      rw [e1] at bc
      rw [e2] at bd
      have m1 := mul_bd (totalL l) (squaresS l.length) 128000000 1000000 bc ln.sq
      have m2 := mul_bd (momL l) (placesS l.length) 16384000000 8192 bd ln.pl
      have m3 := mul_bd' (momL l) (l.length : Int) 16384000000 128 (by omega) bd
      have m4 := mul_bd' (totalL l) (placesS l.length) 128000000 8192 ln.pl bc
      have u1 : IntKind.i64.wrap (totalL l * squaresS l.length) = totalL l * squaresS l.length := IntWalk.i64_in _ (by omega)
      have u2 : IntKind.i64.wrap (momL l * placesS l.length) = momL l * placesS l.length := IntWalk.i64_in _ (by omega)
      have hoff : totalL l * squaresS l.length - momL l * placesS l.length = offN l := by unfold offN; rw [Int.mul_comm (totalL l), Int.mul_comm (momL l)]
      have u3 : IntKind.i64.wrap (totalL l * squaresS l.length - momL l * placesS l.length) = offN l := by rw [IntWalk.i64_in _ (by omega)]; exact hoff
      have u4 : IntKind.i64.wrap ((l.length : Int) * momL l) = (l.length : Int) * momL l := IntWalk.i64_in _ (by omega)
      have u5 : IntKind.i64.wrap (placesS l.length * totalL l) = placesS l.length * totalL l := IntWalk.i64_in _ (by omega)
      have u6 : IntKind.i64.wrap ((l.length : Int) * momL l - placesS l.length * totalL l) = sloN l := IntWalk.i64_in _ (by omega)
      have ns := ln.ns
      have pp := ln.pp
      have det := ln.det
      have u7 : IntKind.i64.wrap ((l.length : Int) * squaresS l.length) = (l.length : Int) * squaresS l.length := IntWalk.i64_in _ (by omega)
      have u8 : IntKind.i64.wrap (placesS l.length * placesS l.length) = placesS l.length * placesS l.length := IntWalk.i64_in _ (by omega)
      have u9 : IntKind.i64.wrap ((l.length : Int) * squaresS l.length - placesS l.length * placesS l.length) = detS l.length := IntWalk.i64_in _ (by omega)
      have HF1 := Lib.hid (fun W => rfrac_any (offN l) (detS l.length) W (by rw [← hoff]; omega) (by omega))
      have HF2 := Lib.hid (fun W => rfrac_any (sloN l) (detS l.length) W (by show -9223372036854775807 ≤ (l.length : Int) * momL l - placesS l.length * totalL l ∧ (l.length : Int) * momL l - placesS l.length * totalL l ≤ 9223372036854775807; omega) (by omega))
      have HBD := Lib.hid (fun k (hk : k ≤ 128) => fitBd hp hk)
      have HPA := Lib.hid (fun i => atL_bd hp i)
      have EI := Lib.hid ei
      have EII := Lib.hid eii
      clear hfe hE h0 ln ei eii e1 e2 ba bb bc bd m1 m2 m3 m4 hoff ns pp det
      generalize squaresS l.length = sq at *
      generalize placesS l.length = pl at *
      generalize detS l.length = D at *
      generalize offN l = A at *
      generalize sloN l = B at *
      unfold lineVal
      dsimp only
      go_enter Try.func38, Try.ntmps38
      go_wp2_with fail
      refine HC.out.mono ?_
      rintro e w1 ⟨rfl, hb⟩
      rw [H0.out]
      have y1 := cell_below hb x1.out
      have hz := cell_lt y1
      have HR1 := Lib.hid (HR.out.below hb)
      have HS1 := Lib.hid (HS.out.below hb)
      have HB := Lib.hid (A0.out.trans (hb.mono A0.out.size))
      clear hb HC
      go_wp2
      go_loop [6, 7, 8, 9, 10] (fun a b c d i => ∃ k : Nat, k ≤ l.length ∧ i = .int .i64 (k : Int) ∧ a = .int .i64 (iS k) ∧ b = .int .i64 (iiS k) ∧ c = .int .i64 (sumF (atL l) k) ∧ d = .int .i64 (imS l k)) (fun _ _ _ _ i => l.length - (intOf i).toNat)
      case atStart => exact ⟨0, Nat.zero_le _, rfl, rfl, rfl, rfl, rfl⟩
      case round =>
        obtain ⟨k, hk, rfl, rfl, rfl, rfl, rfl⟩ := hrel
        by_cases hlt : k < l.length
        · obtain ⟨b, o, rfl, hi⟩ := HS1.out.2.resolve_left (by omega)
          have c0 := hi k hlt
          rw [atL_get] at c0
          have hkl : (k : Int) < (l.length : Int) := by omega
          have hx := HPA.out k
          obtain ⟨ba, bb, bc, bd⟩ := HBD.out k (by omega)
          have m1 := mul_bd2 (x := (k : Int)) (y := (k : Int)) (a := 128) (b := 128) (by omega) (by omega)
          have m2 := mul_bd' (atL l k) (k : Int) 1000000 128 (by omega) hx
          have s1 := Lib.hid (show iS (k + 1) = iS k + k from rfl)
          have s2 := Lib.hid (show iiS (k + 1) = iiS k + (k : Int) * k from rfl)
          have s3 := Lib.hid (show sumF (atL l) (k + 1) = sumF (atL l) k + atL l k from rfl)
          have s4 := Lib.hid (show imS l (k + 1) = imS l k + (k : Int) * atL l k from rfl)
          have v1 : IntKind.i64.wrap (iS k + (k : Int)) = iS k + k := IntWalk.i64_in _ (by omega)
          have v2 : IntKind.i64.wrap ((k : Int) * (k : Int)) = (k : Int) * k := IntWalk.i64_in _ (by omega)
          have v3 : IntKind.i64.wrap (iiS k + (k : Int) * (k : Int)) = iiS k + (k : Int) * k := IntWalk.i64_in _ (by omega)
          have v4 : IntKind.i64.wrap (sumF (atL l) k + atL l k) = sumF (atL l) k + atL l k := IntWalk.i64_in _ (by omega)
          have v5 : IntKind.i64.wrap ((k : Int) * atL l k) = (k : Int) * atL l k := IntWalk.i64_in _ (by omega)
          have v6 : IntKind.i64.wrap (imS l k + (k : Int) * atL l k) = imS l k + (k : Int) * atL l k := IntWalk.i64_in _ (by omega)
          have v7 : IntKind.i64.wrap ((k : Int) + 1) = (k : Int) + 1 := IntWalk.i64_in _ (by omega)
          clear hi hx ba bb bc bd m1 m2
          go_wp2
          go_round
          case rel => exact ⟨k + 1, by omega, by simp, by rw [s1.out], by rw [s2.out], by rw [s3.out], by rw [s4.out]⟩
          case measure => simp [intOf]; omega
        · obtain rfl : k = l.length := by omega
          rw [EI.out, EII.out, show sumF (atL l) l.length = totalL l from rfl, show imS l l.length = momL l from rfl]
          generalize totalL l = S at *
          generalize momL l = Q at *
          clear EI EII
          go_wp2_with fail
          refine (HF1.out _).mono ?_
          rintro e w2 ⟨rfl, hb2⟩
          have HR2 := Lib.hid (HR1.out.below hb2)
          have HB2 := Lib.hid (HB.out.trans (hb2.mono HB.out.size))
          clear hb2
          go_wp2_with fail
          refine (HF2.out _).mono ?_
          rintro e w3 ⟨rfl, hb3⟩
          have HR3 := Lib.hid (HR2.out.below hb3)
          have HB3 := Lib.hid (HB2.out.trans (hb3.mono HB2.out.size))
          obtain ⟨b0, b1, b2, b3, f0, f1, f2, f3⟩ := HR3.out
          have hz2 := cell_lt b0
          have g0 := HR3.out.s0 (.int .i64 (lowN A D))
          have g1 := HR3.out.s1 (.int .i64 (lowN A D)) (.int .i64 (lowD A D))
          have g2 := HR3.out.s2 (.int .i64 (lowN A D)) (.int .i64 (lowD A D)) (.int .i64 (lowN B D))
          have g3 := HR3.out.s3 (.int .i64 (lowN A D)) (.int .i64 (lowD A D)) (.int .i64 (lowN B D)) (.int .i64 (lowD B D))
          clear hb3
          go_wp2
          exact bodyPost_ret (v := .tuple #[.agg #[.int .i64 (lowN A D), .int .i64 (lowD A D), .int .i64 (lowN B D), .int .i64 (lowD B D)], .int .i64 0]) (by simp [results, Try.results38, go_sem, g0, g1, g2, g3]) rfl ⟨rfl, below4 _ _ _ _ HB3.out hge⟩
  · have hfe : fitErr tau l = checkSt tau l := by unfold fitErr; rw [if_neg h0]
    have hE : fitE tau l = ⟨0, 0, 0, 0, checkSt tau l⟩ := by unfold fitE; rw [hfe, if_neg h0]
    have hne : (checkSt tau l != 0) = true := by simpa using h0
    rw [hE]
    unfold lineVal
    dsimp only
    clear hfe hE h0
    go_enter Try.func38, Try.ntmps38
    go_wp2_with fail
    refine HC.out.mono ?_
    rintro e w1 ⟨rfl, hb⟩
    have HR1 := Lib.hid (HR.out.below hb)
    have HB := Lib.hid (A0.out.trans (hb.mono A0.out.size))
    obtain ⟨b0, b1, b2, b3, f0, f1, f2, f3⟩ := HR1.out
    have hz2 := cell_lt b0
    have g0 := HR1.out.s0 (.int .i64 0)
    have g1 := HR1.out.s1 (.int .i64 0) (.int .i64 0)
    have g2 := HR1.out.s2 (.int .i64 0) (.int .i64 0) (.int .i64 0)
    have g3 := HR1.out.s3 (.int .i64 0) (.int .i64 0) (.int .i64 0) (.int .i64 0)
    clear hb
    go_wp2
    exact bodyPost_ret (v := .tuple #[.agg #[.int .i64 0, .int .i64 0, .int .i64 0, .int .i64 0], .int .i64 (checkSt tau l)]) (by simp [results, Try.results38, go_sem, g0, g1, g2, g3]) rfl ⟨rfl, below4 _ _ _ _ HB.out hge⟩
end Go.Proofs.Ythkndjkgokojmaa
namespace Go.Proofs.Ythkndjkgokojmaa
open Go Go.RowKit Go.Shelf
attribute [local go_sem] Oper.semAt_some
/-- how long the part is that begins at q -/
def partN (len m q : Nat) : Nat := min m (len - q)
def partV (b o len m q : Nat) : Value := .slice (some ⟨b, o + q, none⟩) (partN len m q) (partN len m q)
/-- where the parts begin -/
abbrev PIx (len : Nat) : Type := { q : Nat // q < len }
def startAt (len m : Nat) (h0 : 0 < len) (j : Nat) : PIx len := if h : j * m < len then ⟨j * m, h⟩ else ⟨0, h0⟩
def startsL (len m : Nat) (h0 : 0 < len) (k : Nat) : List (PIx len) := (List.range k).map (startAt len m h0)
theorem startsL_succ (len m : Nat) (h0 : 0 < len) (k : Nat) : startsL len m h0 (k + 1) = startsL len m h0 k ++ [startAt len m h0 k] := by simp [startsL, List.range_succ]
theorem startsL_len (len m : Nat) (h0 : 0 < len) (k : Nat) : (startsL len m h0 k).length = k := by simp [startsL]
theorem startsL_prefix (len m : Nat) (h0 : 0 < len) {k n : Nat} (h : k ≤ n) : startsL len m h0 k <+: startsL len m h0 n := by
  obtain ⟨d, rfl⟩ := Nat.exists_eq_add_of_le h
  refine ⟨(List.range d).map (fun j => startAt len m h0 (k + j)), ?_⟩
  simp [startsL, List.range_add, Function.comp_def]
theorem startAt_val (len m : Nat) (h0 : 0 < len) (j : Nat) (h : j * m < len) : (startAt len m h0 j).1 = j * m := by
  unfold startAt; rw [dif_pos h]
/-- what the iterator reads -/
def ChIn (w : World) (Bs Bn : Nat) (m len b o cap : Nat) : Prop :=
  w.cell? ⟨Bs, 0, none⟩ = some (.slice (some ⟨b, o, none⟩) len cap) ∧ w.cell? ⟨Bn, 0, none⟩ = some (.int .i64 m)
theorem ChIn.stay {A B : World} {f : Nat → Prop} {Bs Bn m len b o cap : Nat} (h : ChIn A Bs Bn m len b o cap) (hk : Stay f A B) (h1 : f Bs) (h2 : f Bn) : ChIn B Bs Bn m len b o cap :=
  ⟨hk.cell h1 h.1, hk.cell h2 h.2⟩
set_option maxRecDepth 100000 in
set_option maxHeartbeats 2000000 in
theorem chunk1_in (n lp Bs Bn m len b o cap : Nat) (f : Nat → Prop) (h1 : f Bs) (h2 : f Bn) (h128 : len ≤ 128) (hcap : len ≤ cap) (hm : 1 ≤ m ∧ m ≤ 1000) (hn : 1 ≤ n) (h0 : 0 < len) (J Jx : List (PIx len) → World → Prop) (W : World)
    (hY : ∀ pre d W1, J pre W1 → pre.length < cntS len 0 m → YieldAt Fence.wide (n - 1) Try.prog lp #[partV b o len m d.1] W1 fun e W' =>
      (e = .returned (.bool true) ∧ J (pre ++ [d]) W' ∧ Stay f W1 W') ∨ (e = .returned (.bool false) ∧ Jx (pre ++ [d]) W'))
    (hJ : AbidesFrom W.heap.size J) (hD : ChIn W Bs Bn m len b o cap) (hJ0 : J [] W) :
    CallsIn Fence.wide n Try.prog 98 #[.func (.yield lp) #[] #[], .pointer (some ⟨Bs, 0, none⟩), .pointer (some ⟨Bn, 0, none⟩)] W fun e W' => (∃ v, e = .returned v) ∧
      ((∃ ys, ys = startsL len m h0 (cntS len 0 m) ∧ J ys W') ∨ (∃ pre, pre <+: startsL len m h0 (cntS len 0 m) ∧ Jx pre W')) := by
  have hro : Fence.wide.round = none := rfl
  have HJ := Lib.hid (show ∀ (s : List (PIx len)) (A : World) (k : Nat), W.heap.size ≤ A.heap.size → J s A → J s (A.drewN k) from fun s A k _ h => hJ s A _ none h ⟨rfl, rfl, rfl, Nat.le_refl _, fun _ _ _ => rfl⟩ (fun r e => by cases e))
  have HD0 := Lib.hid hD
  have HSZ := Lib.hid (Nat.le_refl W.heap.size)
  clear hD hJ
  refine callsIn_of_wp Try.func98 rfl trivial ?_ hro
  simp only [Try.ntmps98, List.size_toArray, List.length_cons, List.length_nil, Nat.reduceAdd, Nat.reduceSub, Array.replicate_succ, Array.replicate_zero, List.push_toArray, List.append_toArray, List.nil_append, List.cons_append]
  gi_wp2
  gi_loopw [4] (fun i wr => ∃ j q : Nat, j ≤ cntS len 0 m ∧ q = j * m ∧ q ≤ 2000 ∧ i = .int .i64 (q : Int) ∧ Hid (ChIn wr Bs Bn m len b o cap) ∧ Hid (W.heap.size ≤ wr.heap.size) ∧ J (startsL len m h0 j) wr) (fun i _ => (3000 - intOf i).toNat)
  case atStart => exact ⟨0, 0, Nat.zero_le _, by simp, by omega, rfl, HD0, HSZ, hJ0⟩
  case round =>
    obtain ⟨j, q, hj, hq, hq2, rfl, HD, HS, hJj⟩ := hrel
    have hc := cntS_lt (len := len) (m := 0) (st := m) (j := j) hm.1
    rw [← hq, Nat.add_zero] at hc
    obtain ⟨d0, d1⟩ := id HD.out
    by_cases hlt : j < cntS len 0 m
    · have hql := hc.1 hlt
      obtain ⟨e, he⟩ : ∃ e : Nat, e = partN len m q := ⟨_, rfl⟩
      have hyy := fun W1 h1 => hY _ (startAt len m h0 j) W1 (h1 : J (startsL len m h0 j) W1) (by rw [startsL_len]; exact hlt)
      rw [← startsL_succ, startAt_val len m h0 j (by rw [← hq]; exact hql), ← hq] at hyy
      unfold partV at hyy
      rw [← he] at hyy
      obtain ⟨r, hr⟩ : ∃ r : Nat, len - q = r := ⟨_, rfl⟩
      have hemin : (m = e ∧ (m : Int) ≤ (r : Int)) ∨ (r = e ∧ (r : Int) < (m : Int)) := by unfold partN at he; omega
      obtain ⟨u, hu⟩ : ∃ u : Nat, u = q + e := ⟨_, rfl⟩
      have hle : e ≤ len - q := by unfold partN at he; omega
      have he1 : 1 ≤ e := by unfold partN at he; omega
      have lq : (q : Int) < (len : Int) := by omega
      have lq2 : (q : Int) ≤ (len : Int) := by omega
      have lc : (len : Int) ≤ (cap : Int) := by omega
      have we : IntKind.i64.wrap ((q : Int) + (e : Int)) = (u : Int) := by rw [IntWalk.i64_in _ (by omega)]; omega
      have lqe : (u : Int) ≤ (cap : Int) := by omega
      have lqu : (q : Int) ≤ (u : Int) := by omega
      have luq : u - q = e := by omega
      have luc : u ≤ cap := by omega
      have lqn : q ≤ u := by omega
      have lql : q ≤ len := by omega
      have HQ := Lib.hid hq
      have HE := Lib.hid he
      have hj4 := Lib.hid (show j + 1 ≤ cntS len 0 m by omega)
      have HU := Lib.hid hu
      clear hc hlt hq he hu
      rcases hemin with ⟨rfl, hmr⟩ | ⟨rfl, hmr⟩
      all_goals
        gi_wp2
        refine wpIn_region_pre_lit 6 1 rfl (by kernel_rfl) (by kernel_rfl) (by kernel_rfl) (by kernel_rfl) rfl ?_
        simp only [List.take_succ_cons, List.take_zero]
        repeat (refine wpQuietIn_step (by first | exact fun _ _ _ _ => trivial | quiet_asked_in) (fun KQ hKQ => ?_); go_simp; first | (refine hKQ _ ?_; clear hKQ KQ) | (apply Exists.intro; refine ⟨fun _ => ?_, hKQ _ ?_⟩; (fail); clear hKQ KQ))
        refine wpQuietIn_nil ?_
        intro _ hwq1
        obtain ⟨nq, hwq2⟩ := hwq1
        subst hwq2
        simp only [List.replicate_succ, List.replicate_zero, List.cons_append, List.nil_append]
        refine wpAnyIn_ready (rs := [6]) (by kernel_rfl) (by simp) (AllReadyIn.cons rfl (fun K' hK => ?_) AllReadyIn.nil)
        go_simp
        refine hK _ _ ?_
        clear hK
        refine wpAnyIn_done (by kernel_rfl) ?_ _
        obtain ⟨fn, tmps, assign, body, hy, hR⟩ := hyy (wr.drewN nq) (HJ.out _ _ _ HS.out hJj)
        clear hyy
        gi_wp2
        refine hR.mono ?_
        rintro e W3 (⟨rfl, hJ3, hk3⟩ | ⟨rfl, hJx3⟩)
        · have HD3 := Lib.hid (ChIn.stay (show ChIn (wr.drewN nq) Bs Bn m len b o cap from HD.out) hk3 h1 h2)
          have HS3 := Lib.hid (Nat.le_trans HS.out hk3.1)
          have d1' := HD3.out.2
          have hj5 := hj4.out
          clear d0 d1 hk3
          gi_wp2
          go_roundw
          case rel => exact ⟨j + 1, q + m, by omega, by rw [HQ.out, Nat.add_mul, Nat.one_mul], by omega, by first | (congr 1; have := HU.out; omega) | simp, HD3, HS3, hJ3⟩
          case measure => simp [intOf]; omega
        · gi_wp2
          refine bodyPost_ret (results_none rfl _ _ _) rfl ?_
          exact ⟨⟨_, rfl⟩, .inr ⟨_, startsL_prefix len m h0 hj4.out, hJx3⟩⟩
    · have hql : ¬ (q < len) := fun h => hlt (hc.2 h)
      have hqi : ¬ ((q : Int) < (len : Int)) := by omega
      obtain rfl : j = cntS len 0 m := by omega
      clear hc hlt
      gi_wp2
      go_end0
      exact ⟨⟨_, rfl⟩, .inl hJj⟩
/-- slices.Chunk at a list that is there: it hands back an iterator over its parts -/
theorem chunk_gives (m len b o cap : Nat) (w : World) (h0 : 0 < len) (h128 : len ≤ 128) (hcap : len ≤ cap) (hm : 1 ≤ m ∧ m ≤ 1000) :
    Calls Try.prog 74 #[.slice (some ⟨b, o, none⟩) len cap, .int .i64 m] w fun e w1 => ∃ lb, e = .returned (.func (.func 98) #[] lb) ∧ Below w.heap.size w w1 ∧ w1.heap.size = w.heap.size + 2 ∧
      ∀ n, 1 ≤ n → SeqStopsK Fence.wide n Try.prog 98 lb (fun q : PIx len => #[partV b o len m q.1]) (Stay (fun k => w.heap.size ≤ k ∧ k < w.heap.size + 2)) (fun ys => ys = startsL len m h0 (cntS len 0 m)) (fun pre => pre <+: startsL len m h0 (cntS len 0 m)) (startsL len m h0 (cntS len 0 m)).length w1 := by
  have hB0 : Below w.heap.size w ((w.alloc (.cells #[.slice (some ⟨b, o, none⟩) len cap] 22)).alloc (.cells #[.int .i64 m] 3)) := below_alloc (below_alloc (Below.refl _ _) _) _
  have hS : ChIn ((w.alloc (.cells #[.slice (some ⟨b, o, none⟩) len cap] 22)).alloc (.cells #[.int .i64 m] 3)) w.heap.size (w.heap.size + 1) m len b o cap := ⟨by simp [go_sem], by simp [go_sem]⟩
  have HB := Lib.hid hB0
  have HSS := Lib.hid hS
  have hm1 : ¬ ((m : Int) < 1) := by omega
  clear hB0 hS
  go_enter Try.func74, Try.ntmps74
  go_wp2
  go_ret
  refine ⟨_, rfl, HB.out, by simp, ?_⟩
  intro n hn lp J Jx W hW hJ _ hY hJ0
  rw [startsL_len] at hY
  exact chunk1_in n lp _ _ m len b o cap (fun k => w.heap.size ≤ k ∧ k < w.heap.size + 2) ⟨Nat.le_refl _, by omega⟩ ⟨by omega, by omega⟩ h128 hcap hm hn h0 J Jx W hY hJ ⟨cell_below hW HSS.out.1, cell_below hW HSS.out.2⟩ hJ0
end Go.Proofs.Ythkndjkgokojmaa
namespace Go.Proofs.Ythkndjkgokojmaa
open Go Go.RowKit Go.Shelf
attribute [local go_sem] Oper.semAt_some
/-- a series in a box, as it is read -/
def SRd (X : World) (b : Nat) (tau : Int) (v : Value) : Prop := X.cell? ⟨b, 0, none⟩ = some (.int .i64 tau) ∧ X.cell? ⟨b, 1, none⟩ = some v
theorem SRd.below {X Y : World} {b : Nat} {tau : Int} {v : Value} (h : SRd X b tau v) (hb : Below X.heap.size X Y) : SRd Y b tau v := ⟨cell_below hb h.1, cell_below hb h.2⟩
/-- what Thin's loop keeps: the thinned series' box, the result's box -/
structure ThAt (w : World) (B bx : Nat) (mt : Int) (L : List Int) (v : Value) (W : World) : Prop where
  own : OwnI B W v L
  c0 : W.cell? ⟨bx, 0, none⟩ = some (.int .i64 mt)
  c1 : W.cell? ⟨bx, 1, none⟩ = some v
  f1 : W.frozen? ⟨bx, 1, none⟩ = false
  lt : w.heap.size + 1 < bx ∧ bx < B
  r0 : W.cell? ⟨w.heap.size + 1, 0, none⟩ = some (.int .i64 0)
  r1 : W.cell? ⟨w.heap.size + 1, 1, none⟩ = some (.slice none 0 0)
  g0 : W.frozen? ⟨w.heap.size + 1, 0, none⟩ = false
  g1 : W.frozen? ⟨w.heap.size + 1, 1, none⟩ = false
  bel : Below w.heap.size w W
  sz : B ≤ W.heap.size
theorem OwnI.cells {B : Nat} {W : World} {v : Value} {L : List Int} (h : OwnI B W v L) {k : Nat} (hk : v.ownBlock = some k) : ∃ ob : Obj, W.heap[k]? = some ob ∧ ob.isCells = true := by
  rcases h.2 with ⟨rfl, _⟩ | ⟨g, cap, cur, rfl, hg, hgg, rest⟩
  · simp [Value.ownBlock] at hk
  · simp [Value.ownBlock] at hk
    subst hk
    exact ⟨_, hgg, rfl⟩
theorem ThAt.grown {w : World} {B bx : Nat} {mt : Int} {L : List Int} {v : Value} {W W' : World} {row : Option Nat} (h : ThAt w B bx mt L v W) (hg : W.grownBy W' row) (hr : ∀ r, row = some r → B ≤ r ∧ ∃ o : Obj, W.heap[r]? = some o ∧ o.isCells = false) : ThAt w B bx mt L v W' := by
  have hr' : ∀ r, row = some r → ∃ o : Obj, W.heap[r]? = some o ∧ o.isCells = false := fun r e => (hr r e).2
  refine ⟨h.own.kept hg ?_, cell_kept h.c0 hg hr', cell_kept h.c1 hg hr', (frozen_kept h.c1 hg hr').trans h.f1, h.lt, cell_kept h.r0 hg hr', cell_kept h.r1 hg hr', (frozen_kept h.r0 hg hr').trans h.g0, (frozen_kept h.r1 hg hr').trans h.g1,
    h.bel.grown hg h.bel.size (fun k e => by have := (hr k e).1; have := h.lt; omega), Nat.le_trans h.sz hg.size⟩
  cases e : v.ownBlock with
  | none => exact .inl rfl
  | some k =>
    refine .inr fun hk => ?_
    obtain ⟨o1, h1, h2⟩ := hr' k hk.symm
    obtain ⟨o2, h3, h4⟩ := h.own.cells e
    rw [h1] at h3
    cases h3
    rw [h2] at h4
    cases h4
/-- an append, and its store into the box -/
theorem ThAt.step {w : World} {B bx : Nat} {mt x : Int} {L : List Int} {v v' : Value} {W Y : World} {o : Obj} (h : ThAt w B bx mt L v W) (hown : Y.ownsRow B 3 1 v' (L.length + 1) (ints L ++ [.int .i64 x])) (hg : (W.alloc o).grownBy Y v.ownBlock)
    (hb : v'.ownBlock = v.ownBlock ∨ v'.ownBlock = some (W.alloc o).heap.size) : ThAt w B bx mt (L ++ [x]) v' (Y.setCell ⟨bx, 1, none⟩ v') := by
  have hlt := h.lt
  have hne : ∀ k, k < B → v.ownBlock ≠ some k := fun k hk e => by have := (World.ownsRow.lt h.own k e).1; omega
  have hne' : ∀ k, k < B → v'.ownBlock ≠ some k := fun k hk e => by
    rcases hb with hb | hb
    · exact hne k hk (hb ▸ e)
    · rw [hb] at e; cases e; have := h.sz; simp at hk; omega
  have hs := h.sz
  refine ⟨(OwnI.snoc hown).kept (grownBy_set Y bx 1 v') (.inr (hne' bx hlt.2)), ?_, World.cell?_setCell_same _ _ _ (grown_cell hg (hne bx hlt.2) h.c1), ?_, hlt, ?_, ?_, ?_, ?_, ?_, ?_⟩
  · rw [World.cell?_setCell_other Y ⟨bx, 1, none⟩ ⟨bx, 0, none⟩ _ (fun e => by cases e)]
    exact grown_cell hg (hne bx hlt.2) h.c0
  · rw [World.frozen?_setCell]; exact (grown_frozen (by omega) hg (hne bx hlt.2)).trans h.f1
  · rw [World.cell?_setCell_far _ _ _ _ (by show bx ≠ w.heap.size + 1; omega)]; exact grown_cell hg (hne _ (by omega)) h.r0
  · rw [World.cell?_setCell_far _ _ _ _ (by show bx ≠ w.heap.size + 1; omega)]; exact grown_cell hg (hne _ (by omega)) h.r1
  · rw [World.frozen?_setCell]; exact (grown_frozen (by omega) hg (hne _ (by omega))).trans h.g0
  · rw [World.frozen?_setCell]; exact (grown_frozen (by omega) hg (hne _ (by omega))).trans h.g1
  · exact ((h.bel.alloc h.bel.size o).grown hg (by have := h.bel.size; simp; omega) (fun k e => by have := (World.ownsRow.lt h.own k e).1; omega)).setCell (by show w.heap.size ≤ bx; omega) _
  · have := hg.size; simp at this ⊢; omega
theorem ThAt.mid {w : World} {B bx : Nat} {mt x : Int} {L : List Int} {v v' : Value} {W Y : World} {o : Obj} (h : ThAt w B bx mt L v W) (_hown : Y.ownsRow B 3 1 v' (L.length + 1) (ints L ++ [.int .i64 x])) (hg : (W.alloc o).grownBy Y v.ownBlock)
    (_hb : v'.ownBlock = v.ownBlock ∨ v'.ownBlock = some (W.alloc o).heap.size) : Y.cell? ⟨bx, 1, none⟩ = some v ∧ Y.frozen? ⟨bx, 1, none⟩ = false ∧ bx < Y.heap.size ∧ KeepsOthers W (Y.setCell ⟨bx, 1, none⟩ v') ∧ ∀ k, k < B → k ≠ bx → (Y.setCell ⟨bx, 1, none⟩ v').heap[k]? = W.heap[k]? := by
  have hlt := h.lt
  have hs := h.sz
  have hne : ∀ k, k < B → v.ownBlock ≠ some k := fun k hk e => by have := (World.ownsRow.lt h.own k e).1; omega
  have hc := grown_cell hg (hne bx hlt.2) h.c1
  refine ⟨hc, (grown_frozen (by omega) hg (hne bx hlt.2)).trans h.f1, cell_lt hc, ((KeepsOthers.alloc W o).trans (KeepsOthers.of_grownBy hg fun j ob ej hj => ?_)).trans (KeepsOthers.setCell _ _ _), fun k hk hkb => ?_⟩
  · obtain ⟨ob', h1, h2⟩ := (h.own.alloc o).cells ej
    rw [hj] at h1
    cases h1
    exact h2
  · rw [Below.heap_setCell _ _ _ _ (by show k ≠ bx; exact hkb), hg.block k (by simp; omega) (hne k hk).symm]
    exact Below.heap_alloc _ _ _ (by omega)
theorem cntS_le128 {len m : Nat} (h : len ≤ 128) (hm : 1 ≤ m) : cntS len 0 m ≤ 128 := by
  rcases Nat.lt_or_ge 128 (cntS len 0 m) with h1 | h1
  · have h2 := (cntS_lt hm).1 h1
    have h3 := Nat.le_mul_of_pos_right 128 (show 0 < m by omega)
    omega
  · exact h1
theorem wpIn_append_own_at {F : Fence} {n : Nat} {P : Program} (w : World) {o : Oper} {a : Act} {K : Act → World → Prop} {Q : Exit → Act → World → Prop}
    (s x : Operand) (t : TypeId) (hop : o.op = Op.call { callee := Callee.builtin Builtin.append, args := #[s, x], argTypes := #[t, t] })
    (base : Nat) (e : TypeId) (i : TypeInfo) (z : Value) (size bytes : Nat) (h1 : P.underlying t = some (.slice e)) (h2 : P.info? e = some i) (h3 : i.zero = some z) (h4 : i.size = size) (h5 : i.bytes = bytes) (h6 : z.cells.size = size) (h7 : 0 < size)
    (v : Value) (k : Nat) (xs : List Value) (hs : a.eval s = v) (hown : w.ownsRow base e size v k xs) (ad : Addr) (m c : Nat) (news : List Value) (hx : a.eval x = .slice (some ad) m c) (hn : news.length = m * size)
    (hc : ∀ j u, news[j]? = some u → w.cell? (ad.add j) = some u) (h1c : ∀ u ∈ news, u.oneCell' = true) (b1 : k + m ≤ maxLen) (b2 : (k + m) * bytes ≤ 140737488355328) (b3 : base ≤ w.heap.size)
    (hK : ∀ v' w', w'.ownsRow base e size v' (k + m) (xs ++ news) → w.grownBy w' v.ownBlock → (v'.ownBlock = v.ownBlock ∨ v'.ownBlock = some w.heap.size) → K (a.put o.dst v') w') :
    Oper.wpIn F n P o a w K Q := by
  obtain ⟨v', w', hrun, r1, r2, _, r4⟩ := run_append_own_at (P := P) w base t o.type e i z size bytes h1 h2 h3 h4 h5 h6 h7 v k xs hown ad m c news hn hc h1c b1 b2 b3
  unfold Oper.wpIn
  refine ⟨?_, ?_⟩
  · simp [Oper.about, hop, resolve, Target.leads, Sem.run_pure]
  · rw [Oper.semAt_plain F _ _ (by rw [hop]; intro c hc'; cases hc')]
    simp [execOp, hop, resolve, invoke, builtin, hs, hx, hrun, Result.andThen]
    exact hK _ _ r1 r2 r4
set_option maxRecDepth 100000 in
set_option maxHeartbeats 2000000 in
theorem thin_own (tau : Int) (l : List Int) (b o cap M : Nat) (w : World) (hs : SerIn w l (some ⟨b, o, none⟩)) (hcap : l.length ≤ cap) (h0 : 0 < l.length) (h128 : l.length ≤ 128) (hm : 1 ≤ M ∧ M ≤ 32) (ht : 1 ≤ tau ∧ tau ≤ 1000) (he : stepErr tau l M = 0) (hmt : (M : Int) * tau ≤ 1000) :
    Calls Try.prog 41 #[.agg #[.int .i64 tau, .slice (some ⟨b, o, none⟩) l.length cap], .int .i64 M] w fun e w' => ∃ q c, e = .returned (.tuple #[.agg #[.int .i64 ((M : Int) * tau), .slice q (cntS l.length 0 M) c], .int .i64 0]) ∧
      SerIn w' ((startsL l.length M h0 (cntS l.length 0 M)).map fun d => atL l d.1) q ∧ OwnI w.heap.size w' (.slice q (cntS l.length 0 M) c) ((startsL l.length M h0 (cntS l.length 0 M)).map fun d => atL l d.1) ∧ Below w.heap.size w w' := by
  refine (callsIn_wide (n := 9)).1 ?_
  have hro : Fence.wide.round = none := rfl
  obtain ⟨i0, hi, hz0, hz1, hz2⟩ := info_parts infoInt
  have a0 : Below w.heap.size w ((w.alloc (.cells #[.int .i64 tau, .slice (some ⟨b, o, none⟩) l.length cap] 28)).alloc (.cells #[.int .i64 0, .slice none 0 0] 28)) := below_alloc (below_alloc (Below.refl _ _) _) _
  have HC := Lib.hid (checkStep_any tau l (some ⟨b, o, none⟩) cap M _ (hs.below a0))
  have HS := Lib.hid (hs.below a0)
  have HS0 := Lib.hid hs
  have A0 := Lib.hid a0
  have C0 : Hid (SRd ((w.alloc (.cells #[.int .i64 tau, .slice (some ⟨b, o, none⟩) l.length cap] 28)).alloc (.cells #[.int .i64 0, .slice none 0 0] 28)) w.heap.size tau (.slice (some ⟨b, o, none⟩) l.length cap)) := Lib.hid ⟨by simp [go_sem], by simp [go_sem]⟩
  have wmt : IntKind.i64.wrap ((M : Int) * tau) = M * tau := IntWalk.i64_in _ (by have := mul_bd2 (x := (M : Int)) (y := tau) (a := 32) (b := 1000) (by omega) (by omega); omega)
  have hmt' : ¬ (1000 < (M : Int) * tau) := by omega
  clear hs a0
  refine callsIn_of_wp_marks Try.func41 rfl trivial ?_ hro
  simp only [Try.ntmps41, List.size_toArray, List.length_cons, List.length_nil, Nat.reduceAdd, Nat.reduceSub, Array.replicate_succ, Array.replicate_zero, List.push_toArray, List.append_toArray, List.nil_append, List.cons_append]
  gi_wp2
  refine ⟨trivial, (callsIn_wide.2 HC.out).mono ?_⟩
  rintro e w1 ⟨rfl, hb⟩
  rw [he]
  obtain ⟨d0, d1⟩ := C0.out.below hb
  have hz := cell_lt d0
  have HS1 := Lib.hid (HS.out.below hb)
  have A1 := Lib.hid (A0.out.trans (hb.mono A0.out.size))
  have HW0 := Lib.hid (show w.heap.size + 2 ≤ w1.heap.size by have := hb.size; simp at this; omega)
  have HR0 : Hid (w1.cell? ⟨w.heap.size + 1, 0, none⟩ = some (.int .i64 0)) := Lib.hid (cell_below hb (by simp [go_sem]))
  have HR1 : Hid (w1.cell? ⟨w.heap.size + 1, 1, none⟩ = some (.slice none 0 0)) := Lib.hid (cell_below hb (by simp [go_sem]))
  have HQ0 : Hid (w1.frozen? ⟨w.heap.size + 1, 0, none⟩ = false) := Lib.hid ((hb.frozen (p := ⟨w.heap.size + 1, 0, none⟩) (by simp)).trans (by simp [go_sem]))
  have HQ1 : Hid (w1.frozen? ⟨w.heap.size + 1, 1, none⟩ = false) := Lib.hid ((hb.frozen (p := ⟨w.heap.size + 1, 1, none⟩) (by simp)).trans (by simp [go_sem]))
  clear hb
  gi_wp2
  have b2 := below_alloc (Below.refl w1.heap.size w1) (.cells #[.int .i64 ((M : Int) * tau), .slice none 0 0] 28)
  have HG := Lib.hid (fun W => chunk_gives M l.length b o cap W h0 h128 hcap (by omega))
  refine ⟨trivial, (callsIn_wide.2 (HG.out (w1.alloc (.cells #[.int .i64 ((M : Int) * tau), .slice none 0 0] 28)))).mono ?_⟩
  rintro e w3 ⟨lb, rfl, hb3, hsz3, hseq⟩
  have hA : Below w.heap.size w w3 := A1.out.trans ((b2.mono A1.out.size).trans (hb3.mono (Nat.le_trans A1.out.size b2.size)))
  have hW1 := HW0.out
  have b23 : Below w1.heap.size w1 w3 := b2.trans (hb3.mono b2.size)
  have hJ0 : ThAt w w3.heap.size w1.heap.size ((M : Int) * tau) [] (.slice none 0 0) w3 :=
    ⟨World.ownsRow_nil _ _ _ _, cell_below hb3 (by simp [go_sem]), cell_below hb3 (by simp [go_sem]), (hb3.frozen (p := ⟨w1.heap.size, 1, none⟩) (by simp)).trans (by simp [go_sem]), ⟨by omega, by rw [hsz3]; simp; omega⟩,
      cell_below b23 HR0.out, cell_below b23 HR1.out, (b23.frozen (p := ⟨w.heap.size + 1, 0, none⟩) (by show w.heap.size + 1 < _; omega)).trans HQ0.out, (b23.frozen (p := ⟨w.heap.size + 1, 1, none⟩) (by show w.heap.size + 1 < _; omega)).trans HQ1.out, hA, Nat.le_refl _⟩
  have hf1 : ∀ k, (w1.alloc (.cells #[.int .i64 ((M : Int) * tau), .slice none 0 0] 28)).heap.size ≤ k ∧ k < (w1.alloc (.cells #[.int .i64 ((M : Int) * tau), .slice none 0 0] 28)).heap.size + 2 → k < w3.heap.size := fun k hk => by rw [hsz3]; exact hk.2
  have hf2 : ∀ k, (w1.alloc (.cells #[.int .i64 ((M : Int) * tau), .slice none 0 0] 28)).heap.size ≤ k ∧ k < (w1.alloc (.cells #[.int .i64 ((M : Int) * tau), .slice none 0 0] 28)).heap.size + 2 → k ≠ w1.heap.size := fun k hk => by have := hk.1; simp at this; omega
  have HW1 := Lib.hid hW1
  have HAA := Lib.hid hA
  have hn128 : cntS l.length 0 M ≤ 128 := cntS_le128 h128 (by omega)
  clear d0 d1 hz HG hb3 b2 b23 HS1 A1 HC HS A0 C0 HR0 HR1 HQ0 HQ1
  gi_wp2
  have HOF : OwnFrom w3.heap.size (fun (pre : List (PIx l.length)) W => ∃ v, ThAt w w3.heap.size w1.heap.size ((M : Int) * tau) (pre.map fun d : PIx l.length => atL l d.1) v W) := by
    rintro s W W' row ⟨v, h⟩ hg hr
    exact ⟨v, h.grown hg hr⟩
  refine wpIn_rangeFunc_ownF hro (by decide) (gf := 98) (lb := lb) rfl trivial (enters_of Try.func98 (by kernel_rfl) rfl)
    (hseq 8 (by decide)) (fun h k => h.trans k) (Stay.putObj hf1) (Below.refl _ _) (fun _ => rfl)
    (fun (pre : List (PIx l.length)) W => ∃ v, ThAt w w3.heap.size w1.heap.size ((M : Int) * tau) (pre.map fun d : PIx l.length => atL l d.1) v W)
    (fun _ _ _ => False)
    HOF
    (fun _ _ _ _ _ hs _ _ => hs)
    ⟨_, hJ0⟩
    (fun d => { tmps := #[.agg #[.int .i64 tau, .slice (some ⟨b, o, none⟩) l.length cap], .int .i64 M, .pointer (some ⟨w.heap.size, 0, none⟩), undef, .pointer (some ⟨w.heap.size + 1, 0, none⟩), .int .i64 0, .int .i64 0, .pointer (some ⟨w1.heap.size, 0, none⟩), partV b o l.length M d.1, .agg #[.int .i64 tau, .slice (some ⟨b, o, none⟩) l.length cap], .int .i64 M, .int .i64 0, .int .i64 0, .bool false, undef, undef, .int .i64 M, .pointer (some ⟨w.heap.size, 0, none⟩), .int .i64 tau, .int .i64 ((M : Int) * tau), .bool (decide (1000 < (M : Int) * tau)), undef, .int .i64 M, .pointer (some ⟨w.heap.size, 0, none⟩), .int .i64 tau, .int .i64 ((M : Int) * tau), .agg #[.int .i64 ((M : Int) * tau), .slice none 0 0], .pointer (some ⟨w.heap.size, 1, none⟩), .slice (some ⟨b, o, none⟩) l.length cap, .int .i64 M, .func (.func 98) #[] lb, partV b o l.length M d.1, undef, undef, undef, undef, undef, undef, undef, undef, undef], defers := [] }) ?assign ?body ?done ?stop
  case assign =>
    intro l2 x W K hK
    gi_wp2
    exact hK
  case body =>
    rintro l2 pre x W ⟨v, hT⟩ hlt
    obtain ⟨L, hL⟩ : ∃ L, L = pre.map fun d => atL l d.1 := ⟨_, rfl⟩
    have hlen : L.length = pre.length := by rw [hL, List.length_map]
    rw [startsL_len] at hlt
    have hlt' : pre.length + 1 ≤ 128 := by omega
    rw [← hL] at hT
    have hsl := hT.bel
    have hx0 : W.cell? ⟨b, o + x.1, none⟩ = some (.int .i64 (atL l x.1)) := by
      rcases (HS0.out.below hsl).2 with h | ⟨b', o', hp', hI⟩
      · omega
      · cases hp'
        have := hI x.1 x.2
        rw [atL_get] at this
        exact this
    have hpart : partV b o l.length M x.1 = .slice (some ⟨b, o + x.1, none⟩) (partN l.length M x.1) (partN l.length M x.1) := rfl
    have hp0 : (0 : Int) < (partN l.length M x.1 : Int) := by unfold partN; have := x.2; omega
    have hpn : 0 < partN l.length M x.1 := by omega
    have hc1 := hT.c1
    have HT0 := Lib.hid hT
    have hbx := cell_lt hc1
    have FIN : ∀ Y v', KeepsOthers W Y → (∀ k, k < w3.heap.size → k ≠ w1.heap.size → Y.heap[k]? = W.heap[k]?) → ThAt w w3.heap.size w1.heap.size ((M : Int) * tau) (L ++ [atL l x.1]) v' Y → KeepsOthers W Y ∧ Stay (fun k => (w1.alloc (.cells #[.int .i64 ((M : Int) * tau), .slice none 0 0] 28)).heap.size ≤ k ∧ k < (w1.alloc (.cells #[.int .i64 ((M : Int) * tau), .slice none 0 0] 28)).heap.size + 2) W Y ∧ ∃ v, ThAt w w3.heap.size w1.heap.size ((M : Int) * tau) ((pre ++ [x]).map fun d => atL l d.1) v Y :=
      fun Y v' h1 h2 h3 => ⟨h1, ⟨h1.size, fun k hk => h2 k (hf1 k hk) (hf2 k hk)⟩, v', by rw [List.map_append, ← hL]; exact h3⟩
    clear hT hsl
    gi_wp2
    refine wpIn_region_any rfl ?_
    obtain ⟨V, hVV⟩ : ∃ V : World, V = { W with drawn := W.drawn + 1 } := ⟨_, rfl⟩
    rw [← hVV]
    have hg0 : W.grownBy V none := by rw [hVV]; exact ⟨rfl, rfl, rfl, Nat.le_refl _, fun _ _ _ => rfl⟩
    have hh0 : V.heap = W.heap := by rw [hVV]
    have HV := Lib.hid (HT0.out.grown (row := none) hg0 (fun r e => by cases e))
    have hk0 : KeepsOthers W V := KeepsOthers.of_grownBy hg0 (fun j o e _ => by cases e)
    replace FIN : ∀ Y v', KeepsOthers V Y → (∀ k, k < w3.heap.size → k ≠ w1.heap.size → Y.heap[k]? = V.heap[k]?) → ThAt w w3.heap.size w1.heap.size ((M : Int) * tau) (L ++ [atL l x.1]) v' Y → _ := fun Y v' h1 h2 h3 => FIN Y v' (hk0.trans h1) (fun k hk1 hk2 => by rw [h2 k hk1 hk2, hh0]) h3
    replace hx0 : V.cell? ⟨b, o + x.1, none⟩ = some (.int .i64 (atL l x.1)) := by rw [hVV]; exact hx0
    replace hc1 := HV.out.c1
    replace hbx := cell_lt hc1
    have hbb := cell_lt hx0
    have HLN := Lib.hid hlen
    clear hg0 hh0 hk0 HT0 hlen hL
    simp only [List.size_toArray, List.length_cons, List.length_nil, Nat.reduceAdd, Array.replicate_succ, Array.replicate_zero, List.push_toArray, List.nil_append, List.cons_append]
    clear hVV
    obtain ⟨pn, hpq⟩ : ∃ pn, pn = partN l.length M x.1 := ⟨_, rfl⟩
    simp only [← hpq] at hp0 hpn ⊢
    clear hpart hpq
    refine wpAnyIn_ready (rs := [0, 2]) (by kernel_rfl) (by simp) (AllReadyIn.cons rfl (fun K' hK => ?_) (AllReadyIn.cons rfl (fun K' hK => ?_) AllReadyIn.nil))
    · go_simp
      refine hK _ _ ?_
      clear hK
      refine wpAnyIn_ready (rs := [1, 2]) (by kernel_rfl) (by simp) (AllReadyIn.cons rfl (fun K' hK => ?_) (AllReadyIn.cons rfl (fun K' hK => ?_) AllReadyIn.nil))
      · go_simp
        refine hK _ _ ?_
        clear hK
        refine wpAnyIn_ready (rs := [2]) (by kernel_rfl) (by simp) (AllReadyIn.cons rfl (fun K' hK => ?_) AllReadyIn.nil)
        go_simp
        refine hK _ _ ?_
        clear hK
        refine wpAnyIn_ready (rs := [3]) (by kernel_rfl) (by simp) (AllReadyIn.cons rfl (fun K' hK => ?_) AllReadyIn.nil)
        go_simp
        refine hK _ _ ?_
        clear hK
        refine wpAnyIn_ready (rs := [4]) (by kernel_rfl) (by simp) (AllReadyIn.cons rfl (fun K' hK => ?_) AllReadyIn.nil)
        go_simp
        refine hK _ _ ?_
        clear hK
        refine wpAnyIn_ready (rs := [5]) (by kernel_rfl) (by simp) (AllReadyIn.cons rfl (fun K' hK => ?_) AllReadyIn.nil)
        go_simp
        refine hK _ _ ?_
        clear hK
        refine wpAnyIn_ready (rs := [6]) (by kernel_rfl) (by simp) (AllReadyIn.cons rfl (fun K' hK => ?_) AllReadyIn.nil)
        refine Eq.mpr (if_pos rfl) (wpIn_append_own_at _ (.tmp 33) (.tmp 37) 22 rfl w3.heap.size 3 i0 (.int .i64 0) 1 8 Try.underlying22 hi hz0 hz1 hz2 rfl (by decide) v _ _ rfl (HV.out.own.alloc _) ⟨V.heap.size, 0, none⟩ 1 1 [.int .i64 (atL l x.1)] rfl rfl (cell_one_new _ _ _) (by simp [Value.oneCell']) (by rw [HLN.out]; unfold maxLen; omega) (by rw [HLN.out]; omega) (by have := HV.out.sz; simp; omega) ?_)
        intro v' w4 hown hg hb
        have HT := Lib.hid (HV.out.step hown hg hb)
        obtain ⟨e1, e2, e3, e4, e5⟩ := HV.out.mid hown hg hb
        have HKO := Lib.hid e4
        have HST := Lib.hid e5
        obtain ⟨g', cap', rfl⟩ := ownsRow_succ hown
        clear hown hg hb e4 e5
        refine hK _ _ ?_
        clear hK hc1 hbx
        refine wpAnyIn_ready (rs := [7]) (by kernel_rfl) (by simp) (AllReadyIn.cons rfl (fun K' hK => ?_) AllReadyIn.nil)
        go_simp
        refine hK _ _ ?_
        clear hK
        refine wpAnyIn_ready (rs := [8]) (by kernel_rfl) (by simp) (AllReadyIn.cons rfl (fun K' hK => ?_) AllReadyIn.nil)
        go_simp
        refine hK _ _ ?_
        clear hK
        refine wpAnyIn_done (by kernel_rfl) ?_ _
        gi_wp2
        exact FIN _ _ HKO.out HST.out HT.out
      · go_simp
        refine hK _ _ ?_
        clear hK
        refine wpAnyIn_ready (rs := [1, 3]) (by kernel_rfl) (by simp) (AllReadyIn.cons rfl (fun K' hK => ?_) (AllReadyIn.cons rfl (fun K' hK => ?_) AllReadyIn.nil))
        · go_simp
          refine hK _ _ ?_
          clear hK
          refine wpAnyIn_ready (rs := [3]) (by kernel_rfl) (by simp) (AllReadyIn.cons rfl (fun K' hK => ?_) AllReadyIn.nil)
          go_simp
          refine hK _ _ ?_
          clear hK
          refine wpAnyIn_ready (rs := [4]) (by kernel_rfl) (by simp) (AllReadyIn.cons rfl (fun K' hK => ?_) AllReadyIn.nil)
          go_simp
          refine hK _ _ ?_
          clear hK
          refine wpAnyIn_ready (rs := [5]) (by kernel_rfl) (by simp) (AllReadyIn.cons rfl (fun K' hK => ?_) AllReadyIn.nil)
          go_simp
          refine hK _ _ ?_
          clear hK
          refine wpAnyIn_ready (rs := [6]) (by kernel_rfl) (by simp) (AllReadyIn.cons rfl (fun K' hK => ?_) AllReadyIn.nil)
          refine Eq.mpr (if_pos rfl) (wpIn_append_own_at _ (.tmp 33) (.tmp 37) 22 rfl w3.heap.size 3 i0 (.int .i64 0) 1 8 Try.underlying22 hi hz0 hz1 hz2 rfl (by decide) v _ _ rfl (HV.out.own.alloc _) ⟨V.heap.size, 0, none⟩ 1 1 [.int .i64 (atL l x.1)] rfl rfl (cell_one_new _ _ _) (by simp [Value.oneCell']) (by rw [HLN.out]; unfold maxLen; omega) (by rw [HLN.out]; omega) (by have := HV.out.sz; simp; omega) ?_)
          intro v' w4 hown hg hb
          have HT := Lib.hid (HV.out.step hown hg hb)
          obtain ⟨e1, e2, e3, e4, e5⟩ := HV.out.mid hown hg hb
          have HKO := Lib.hid e4
          have HST := Lib.hid e5
          obtain ⟨g', cap', rfl⟩ := ownsRow_succ hown
          clear hown hg hb e4 e5
          refine hK _ _ ?_
          clear hK hc1 hbx
          refine wpAnyIn_ready (rs := [7]) (by kernel_rfl) (by simp) (AllReadyIn.cons rfl (fun K' hK => ?_) AllReadyIn.nil)
          go_simp
          refine hK _ _ ?_
          clear hK
          refine wpAnyIn_ready (rs := [8]) (by kernel_rfl) (by simp) (AllReadyIn.cons rfl (fun K' hK => ?_) AllReadyIn.nil)
          go_simp
          refine hK _ _ ?_
          clear hK
          refine wpAnyIn_done (by kernel_rfl) ?_ _
          gi_wp2
          exact FIN _ _ HKO.out HST.out HT.out
        · go_simp
          refine hK _ _ ?_
          clear hK
          refine wpAnyIn_ready (rs := [1, 4]) (by kernel_rfl) (by simp) (AllReadyIn.cons rfl (fun K' hK => ?_) (AllReadyIn.cons rfl (fun K' hK => ?_) AllReadyIn.nil))
          · go_simp
            refine hK _ _ ?_
            clear hK
            refine wpAnyIn_ready (rs := [4]) (by kernel_rfl) (by simp) (AllReadyIn.cons rfl (fun K' hK => ?_) AllReadyIn.nil)
            go_simp
            refine hK _ _ ?_
            clear hK
            refine wpAnyIn_ready (rs := [5]) (by kernel_rfl) (by simp) (AllReadyIn.cons rfl (fun K' hK => ?_) AllReadyIn.nil)
            go_simp
            refine hK _ _ ?_
            clear hK
            refine wpAnyIn_ready (rs := [6]) (by kernel_rfl) (by simp) (AllReadyIn.cons rfl (fun K' hK => ?_) AllReadyIn.nil)
            refine Eq.mpr (if_pos rfl) (wpIn_append_own_at _ (.tmp 33) (.tmp 37) 22 rfl w3.heap.size 3 i0 (.int .i64 0) 1 8 Try.underlying22 hi hz0 hz1 hz2 rfl (by decide) v _ _ rfl (HV.out.own.alloc _) ⟨V.heap.size, 0, none⟩ 1 1 [.int .i64 (atL l x.1)] rfl rfl (cell_one_new _ _ _) (by simp [Value.oneCell']) (by rw [HLN.out]; unfold maxLen; omega) (by rw [HLN.out]; omega) (by have := HV.out.sz; simp; omega) ?_)
            intro v' w4 hown hg hb
            have HT := Lib.hid (HV.out.step hown hg hb)
            obtain ⟨e1, e2, e3, e4, e5⟩ := HV.out.mid hown hg hb
            have HKO := Lib.hid e4
            have HST := Lib.hid e5
            obtain ⟨g', cap', rfl⟩ := ownsRow_succ hown
            clear hown hg hb e4 e5
            refine hK _ _ ?_
            clear hK hc1 hbx
            refine wpAnyIn_ready (rs := [7]) (by kernel_rfl) (by simp) (AllReadyIn.cons rfl (fun K' hK => ?_) AllReadyIn.nil)
            go_simp
            refine hK _ _ ?_
            clear hK
            refine wpAnyIn_ready (rs := [8]) (by kernel_rfl) (by simp) (AllReadyIn.cons rfl (fun K' hK => ?_) AllReadyIn.nil)
            go_simp
            refine hK _ _ ?_
            clear hK
            refine wpAnyIn_done (by kernel_rfl) ?_ _
            gi_wp2
            exact FIN _ _ HKO.out HST.out HT.out
          · go_simp
            refine hK _ _ ?_
            clear hK
            refine wpAnyIn_ready (rs := [1, 5]) (by kernel_rfl) (by simp) (AllReadyIn.cons rfl (fun K' hK => ?_) (AllReadyIn.cons rfl (fun K' hK => ?_) AllReadyIn.nil))
            · go_simp
              refine hK _ _ ?_
              clear hK
              refine wpAnyIn_ready (rs := [5]) (by kernel_rfl) (by simp) (AllReadyIn.cons rfl (fun K' hK => ?_) AllReadyIn.nil)
              go_simp
              refine hK _ _ ?_
              clear hK
              refine wpAnyIn_ready (rs := [6]) (by kernel_rfl) (by simp) (AllReadyIn.cons rfl (fun K' hK => ?_) AllReadyIn.nil)
              refine Eq.mpr (if_pos rfl) (wpIn_append_own_at _ (.tmp 33) (.tmp 37) 22 rfl w3.heap.size 3 i0 (.int .i64 0) 1 8 Try.underlying22 hi hz0 hz1 hz2 rfl (by decide) v _ _ rfl (HV.out.own.alloc _) ⟨V.heap.size, 0, none⟩ 1 1 [.int .i64 (atL l x.1)] rfl rfl (cell_one_new _ _ _) (by simp [Value.oneCell']) (by rw [HLN.out]; unfold maxLen; omega) (by rw [HLN.out]; omega) (by have := HV.out.sz; simp; omega) ?_)
              intro v' w4 hown hg hb
              have HT := Lib.hid (HV.out.step hown hg hb)
              obtain ⟨e1, e2, e3, e4, e5⟩ := HV.out.mid hown hg hb
              have HKO := Lib.hid e4
              have HST := Lib.hid e5
              obtain ⟨g', cap', rfl⟩ := ownsRow_succ hown
              clear hown hg hb e4 e5
              refine hK _ _ ?_
              clear hK hc1 hbx
              refine wpAnyIn_ready (rs := [7]) (by kernel_rfl) (by simp) (AllReadyIn.cons rfl (fun K' hK => ?_) AllReadyIn.nil)
              go_simp
              refine hK _ _ ?_
              clear hK
              refine wpAnyIn_ready (rs := [8]) (by kernel_rfl) (by simp) (AllReadyIn.cons rfl (fun K' hK => ?_) AllReadyIn.nil)
              go_simp
              refine hK _ _ ?_
              clear hK
              refine wpAnyIn_done (by kernel_rfl) ?_ _
              gi_wp2
              exact FIN _ _ HKO.out HST.out HT.out
            · go_simp
              refine hK _ _ ?_
              clear hK
              refine wpAnyIn_ready (rs := [1]) (by kernel_rfl) (by simp) (AllReadyIn.cons rfl (fun K' hK => ?_) AllReadyIn.nil)
              go_simp
              refine hK _ _ ?_
              clear hK
              refine wpAnyIn_ready (rs := [6]) (by kernel_rfl) (by simp) (AllReadyIn.cons rfl (fun K' hK => ?_) AllReadyIn.nil)
              refine Eq.mpr (if_pos rfl) (wpIn_append_own_at _ (.tmp 33) (.tmp 37) 22 rfl w3.heap.size 3 i0 (.int .i64 0) 1 8 Try.underlying22 hi hz0 hz1 hz2 rfl (by decide) v _ _ rfl (HV.out.own.alloc _) ⟨V.heap.size, 0, none⟩ 1 1 [.int .i64 (atL l x.1)] rfl rfl (cell_one_new _ _ _) (by simp [Value.oneCell']) (by rw [HLN.out]; unfold maxLen; omega) (by rw [HLN.out]; omega) (by have := HV.out.sz; simp; omega) ?_)
              intro v' w4 hown hg hb
              have HT := Lib.hid (HV.out.step hown hg hb)
              obtain ⟨e1, e2, e3, e4, e5⟩ := HV.out.mid hown hg hb
              have HKO := Lib.hid e4
              have HST := Lib.hid e5
              obtain ⟨g', cap', rfl⟩ := ownsRow_succ hown
              clear hown hg hb e4 e5
              refine hK _ _ ?_
              clear hK hc1 hbx
              refine wpAnyIn_ready (rs := [7]) (by kernel_rfl) (by simp) (AllReadyIn.cons rfl (fun K' hK => ?_) AllReadyIn.nil)
              go_simp
              refine hK _ _ ?_
              clear hK
              refine wpAnyIn_ready (rs := [8]) (by kernel_rfl) (by simp) (AllReadyIn.cons rfl (fun K' hK => ?_) AllReadyIn.nil)
              go_simp
              refine hK _ _ ?_
              clear hK
              refine wpAnyIn_done (by kernel_rfl) ?_ _
              gi_wp2
              exact FIN _ _ HKO.out HST.out HT.out
    · go_simp
      refine hK _ _ ?_
      clear hK
      refine wpAnyIn_ready (rs := [0, 3]) (by kernel_rfl) (by simp) (AllReadyIn.cons rfl (fun K' hK => ?_) (AllReadyIn.cons rfl (fun K' hK => ?_) AllReadyIn.nil))
      · go_simp
        refine hK _ _ ?_
        clear hK
        refine wpAnyIn_ready (rs := [1, 3]) (by kernel_rfl) (by simp) (AllReadyIn.cons rfl (fun K' hK => ?_) (AllReadyIn.cons rfl (fun K' hK => ?_) AllReadyIn.nil))
        · go_simp
          refine hK _ _ ?_
          clear hK
          refine wpAnyIn_ready (rs := [3]) (by kernel_rfl) (by simp) (AllReadyIn.cons rfl (fun K' hK => ?_) AllReadyIn.nil)
          go_simp
          refine hK _ _ ?_
          clear hK
          refine wpAnyIn_ready (rs := [4]) (by kernel_rfl) (by simp) (AllReadyIn.cons rfl (fun K' hK => ?_) AllReadyIn.nil)
          go_simp
          refine hK _ _ ?_
          clear hK
          refine wpAnyIn_ready (rs := [5]) (by kernel_rfl) (by simp) (AllReadyIn.cons rfl (fun K' hK => ?_) AllReadyIn.nil)
          go_simp
          refine hK _ _ ?_
          clear hK
          refine wpAnyIn_ready (rs := [6]) (by kernel_rfl) (by simp) (AllReadyIn.cons rfl (fun K' hK => ?_) AllReadyIn.nil)
          refine Eq.mpr (if_pos rfl) (wpIn_append_own_at _ (.tmp 33) (.tmp 37) 22 rfl w3.heap.size 3 i0 (.int .i64 0) 1 8 Try.underlying22 hi hz0 hz1 hz2 rfl (by decide) v _ _ rfl (HV.out.own.alloc _) ⟨V.heap.size, 0, none⟩ 1 1 [.int .i64 (atL l x.1)] rfl rfl (cell_one_new _ _ _) (by simp [Value.oneCell']) (by rw [HLN.out]; unfold maxLen; omega) (by rw [HLN.out]; omega) (by have := HV.out.sz; simp; omega) ?_)
          intro v' w4 hown hg hb
          have HT := Lib.hid (HV.out.step hown hg hb)
          obtain ⟨e1, e2, e3, e4, e5⟩ := HV.out.mid hown hg hb
          have HKO := Lib.hid e4
          have HST := Lib.hid e5
          obtain ⟨g', cap', rfl⟩ := ownsRow_succ hown
          clear hown hg hb e4 e5
          refine hK _ _ ?_
          clear hK hc1 hbx
          refine wpAnyIn_ready (rs := [7]) (by kernel_rfl) (by simp) (AllReadyIn.cons rfl (fun K' hK => ?_) AllReadyIn.nil)
          go_simp
          refine hK _ _ ?_
          clear hK
          refine wpAnyIn_ready (rs := [8]) (by kernel_rfl) (by simp) (AllReadyIn.cons rfl (fun K' hK => ?_) AllReadyIn.nil)
          go_simp
          refine hK _ _ ?_
          clear hK
          refine wpAnyIn_done (by kernel_rfl) ?_ _
          gi_wp2
          exact FIN _ _ HKO.out HST.out HT.out
        · go_simp
          refine hK _ _ ?_
          clear hK
          refine wpAnyIn_ready (rs := [1, 4]) (by kernel_rfl) (by simp) (AllReadyIn.cons rfl (fun K' hK => ?_) (AllReadyIn.cons rfl (fun K' hK => ?_) AllReadyIn.nil))
          · go_simp
            refine hK _ _ ?_
            clear hK
            refine wpAnyIn_ready (rs := [4]) (by kernel_rfl) (by simp) (AllReadyIn.cons rfl (fun K' hK => ?_) AllReadyIn.nil)
            go_simp
            refine hK _ _ ?_
            clear hK
            refine wpAnyIn_ready (rs := [5]) (by kernel_rfl) (by simp) (AllReadyIn.cons rfl (fun K' hK => ?_) AllReadyIn.nil)
            go_simp
            refine hK _ _ ?_
            clear hK
            refine wpAnyIn_ready (rs := [6]) (by kernel_rfl) (by simp) (AllReadyIn.cons rfl (fun K' hK => ?_) AllReadyIn.nil)
            refine Eq.mpr (if_pos rfl) (wpIn_append_own_at _ (.tmp 33) (.tmp 37) 22 rfl w3.heap.size 3 i0 (.int .i64 0) 1 8 Try.underlying22 hi hz0 hz1 hz2 rfl (by decide) v _ _ rfl (HV.out.own.alloc _) ⟨V.heap.size, 0, none⟩ 1 1 [.int .i64 (atL l x.1)] rfl rfl (cell_one_new _ _ _) (by simp [Value.oneCell']) (by rw [HLN.out]; unfold maxLen; omega) (by rw [HLN.out]; omega) (by have := HV.out.sz; simp; omega) ?_)
            intro v' w4 hown hg hb
            have HT := Lib.hid (HV.out.step hown hg hb)
            obtain ⟨e1, e2, e3, e4, e5⟩ := HV.out.mid hown hg hb
            have HKO := Lib.hid e4
            have HST := Lib.hid e5
            obtain ⟨g', cap', rfl⟩ := ownsRow_succ hown
            clear hown hg hb e4 e5
            refine hK _ _ ?_
            clear hK hc1 hbx
            refine wpAnyIn_ready (rs := [7]) (by kernel_rfl) (by simp) (AllReadyIn.cons rfl (fun K' hK => ?_) AllReadyIn.nil)
            go_simp
            refine hK _ _ ?_
            clear hK
            refine wpAnyIn_ready (rs := [8]) (by kernel_rfl) (by simp) (AllReadyIn.cons rfl (fun K' hK => ?_) AllReadyIn.nil)
            go_simp
            refine hK _ _ ?_
            clear hK
            refine wpAnyIn_done (by kernel_rfl) ?_ _
            gi_wp2
            exact FIN _ _ HKO.out HST.out HT.out
          · go_simp
            refine hK _ _ ?_
            clear hK
            refine wpAnyIn_ready (rs := [1, 5]) (by kernel_rfl) (by simp) (AllReadyIn.cons rfl (fun K' hK => ?_) (AllReadyIn.cons rfl (fun K' hK => ?_) AllReadyIn.nil))
            · go_simp
              refine hK _ _ ?_
              clear hK
              refine wpAnyIn_ready (rs := [5]) (by kernel_rfl) (by simp) (AllReadyIn.cons rfl (fun K' hK => ?_) AllReadyIn.nil)
              go_simp
              refine hK _ _ ?_
              clear hK
              refine wpAnyIn_ready (rs := [6]) (by kernel_rfl) (by simp) (AllReadyIn.cons rfl (fun K' hK => ?_) AllReadyIn.nil)
              refine Eq.mpr (if_pos rfl) (wpIn_append_own_at _ (.tmp 33) (.tmp 37) 22 rfl w3.heap.size 3 i0 (.int .i64 0) 1 8 Try.underlying22 hi hz0 hz1 hz2 rfl (by decide) v _ _ rfl (HV.out.own.alloc _) ⟨V.heap.size, 0, none⟩ 1 1 [.int .i64 (atL l x.1)] rfl rfl (cell_one_new _ _ _) (by simp [Value.oneCell']) (by rw [HLN.out]; unfold maxLen; omega) (by rw [HLN.out]; omega) (by have := HV.out.sz; simp; omega) ?_)
              intro v' w4 hown hg hb
              have HT := Lib.hid (HV.out.step hown hg hb)
              obtain ⟨e1, e2, e3, e4, e5⟩ := HV.out.mid hown hg hb
              have HKO := Lib.hid e4
              have HST := Lib.hid e5
              obtain ⟨g', cap', rfl⟩ := ownsRow_succ hown
              clear hown hg hb e4 e5
              refine hK _ _ ?_
              clear hK hc1 hbx
              refine wpAnyIn_ready (rs := [7]) (by kernel_rfl) (by simp) (AllReadyIn.cons rfl (fun K' hK => ?_) AllReadyIn.nil)
              go_simp
              refine hK _ _ ?_
              clear hK
              refine wpAnyIn_ready (rs := [8]) (by kernel_rfl) (by simp) (AllReadyIn.cons rfl (fun K' hK => ?_) AllReadyIn.nil)
              go_simp
              refine hK _ _ ?_
              clear hK
              refine wpAnyIn_done (by kernel_rfl) ?_ _
              gi_wp2
              exact FIN _ _ HKO.out HST.out HT.out
            · go_simp
              refine hK _ _ ?_
              clear hK
              refine wpAnyIn_ready (rs := [1]) (by kernel_rfl) (by simp) (AllReadyIn.cons rfl (fun K' hK => ?_) AllReadyIn.nil)
              go_simp
              refine hK _ _ ?_
              clear hK
              refine wpAnyIn_ready (rs := [6]) (by kernel_rfl) (by simp) (AllReadyIn.cons rfl (fun K' hK => ?_) AllReadyIn.nil)
              refine Eq.mpr (if_pos rfl) (wpIn_append_own_at _ (.tmp 33) (.tmp 37) 22 rfl w3.heap.size 3 i0 (.int .i64 0) 1 8 Try.underlying22 hi hz0 hz1 hz2 rfl (by decide) v _ _ rfl (HV.out.own.alloc _) ⟨V.heap.size, 0, none⟩ 1 1 [.int .i64 (atL l x.1)] rfl rfl (cell_one_new _ _ _) (by simp [Value.oneCell']) (by rw [HLN.out]; unfold maxLen; omega) (by rw [HLN.out]; omega) (by have := HV.out.sz; simp; omega) ?_)
              intro v' w4 hown hg hb
              have HT := Lib.hid (HV.out.step hown hg hb)
              obtain ⟨e1, e2, e3, e4, e5⟩ := HV.out.mid hown hg hb
              have HKO := Lib.hid e4
              have HST := Lib.hid e5
              obtain ⟨g', cap', rfl⟩ := ownsRow_succ hown
              clear hown hg hb e4 e5
              refine hK _ _ ?_
              clear hK hc1 hbx
              refine wpAnyIn_ready (rs := [7]) (by kernel_rfl) (by simp) (AllReadyIn.cons rfl (fun K' hK => ?_) AllReadyIn.nil)
              go_simp
              refine hK _ _ ?_
              clear hK
              refine wpAnyIn_ready (rs := [8]) (by kernel_rfl) (by simp) (AllReadyIn.cons rfl (fun K' hK => ?_) AllReadyIn.nil)
              go_simp
              refine hK _ _ ?_
              clear hK
              refine wpAnyIn_done (by kernel_rfl) ?_ _
              gi_wp2
              exact FIN _ _ HKO.out HST.out HT.out
      · go_simp
        refine hK _ _ ?_
        clear hK
        refine wpAnyIn_ready (rs := [0, 4]) (by kernel_rfl) (by simp) (AllReadyIn.cons rfl (fun K' hK => ?_) (AllReadyIn.cons rfl (fun K' hK => ?_) AllReadyIn.nil))
        · go_simp
          refine hK _ _ ?_
          clear hK
          refine wpAnyIn_ready (rs := [1, 4]) (by kernel_rfl) (by simp) (AllReadyIn.cons rfl (fun K' hK => ?_) (AllReadyIn.cons rfl (fun K' hK => ?_) AllReadyIn.nil))
          · go_simp
            refine hK _ _ ?_
            clear hK
            refine wpAnyIn_ready (rs := [4]) (by kernel_rfl) (by simp) (AllReadyIn.cons rfl (fun K' hK => ?_) AllReadyIn.nil)
            go_simp
            refine hK _ _ ?_
            clear hK
            refine wpAnyIn_ready (rs := [5]) (by kernel_rfl) (by simp) (AllReadyIn.cons rfl (fun K' hK => ?_) AllReadyIn.nil)
            go_simp
            refine hK _ _ ?_
            clear hK
            refine wpAnyIn_ready (rs := [6]) (by kernel_rfl) (by simp) (AllReadyIn.cons rfl (fun K' hK => ?_) AllReadyIn.nil)
            refine Eq.mpr (if_pos rfl) (wpIn_append_own_at _ (.tmp 33) (.tmp 37) 22 rfl w3.heap.size 3 i0 (.int .i64 0) 1 8 Try.underlying22 hi hz0 hz1 hz2 rfl (by decide) v _ _ rfl (HV.out.own.alloc _) ⟨V.heap.size, 0, none⟩ 1 1 [.int .i64 (atL l x.1)] rfl rfl (cell_one_new _ _ _) (by simp [Value.oneCell']) (by rw [HLN.out]; unfold maxLen; omega) (by rw [HLN.out]; omega) (by have := HV.out.sz; simp; omega) ?_)
            intro v' w4 hown hg hb
            have HT := Lib.hid (HV.out.step hown hg hb)
            obtain ⟨e1, e2, e3, e4, e5⟩ := HV.out.mid hown hg hb
            have HKO := Lib.hid e4
            have HST := Lib.hid e5
            obtain ⟨g', cap', rfl⟩ := ownsRow_succ hown
            clear hown hg hb e4 e5
            refine hK _ _ ?_
            clear hK hc1 hbx
            refine wpAnyIn_ready (rs := [7]) (by kernel_rfl) (by simp) (AllReadyIn.cons rfl (fun K' hK => ?_) AllReadyIn.nil)
            go_simp
            refine hK _ _ ?_
            clear hK
            refine wpAnyIn_ready (rs := [8]) (by kernel_rfl) (by simp) (AllReadyIn.cons rfl (fun K' hK => ?_) AllReadyIn.nil)
            go_simp
            refine hK _ _ ?_
            clear hK
            refine wpAnyIn_done (by kernel_rfl) ?_ _
            gi_wp2
            exact FIN _ _ HKO.out HST.out HT.out
          · go_simp
            refine hK _ _ ?_
            clear hK
            refine wpAnyIn_ready (rs := [1, 5]) (by kernel_rfl) (by simp) (AllReadyIn.cons rfl (fun K' hK => ?_) (AllReadyIn.cons rfl (fun K' hK => ?_) AllReadyIn.nil))
            · go_simp
              refine hK _ _ ?_
              clear hK
              refine wpAnyIn_ready (rs := [5]) (by kernel_rfl) (by simp) (AllReadyIn.cons rfl (fun K' hK => ?_) AllReadyIn.nil)
              go_simp
              refine hK _ _ ?_
              clear hK
              refine wpAnyIn_ready (rs := [6]) (by kernel_rfl) (by simp) (AllReadyIn.cons rfl (fun K' hK => ?_) AllReadyIn.nil)
              refine Eq.mpr (if_pos rfl) (wpIn_append_own_at _ (.tmp 33) (.tmp 37) 22 rfl w3.heap.size 3 i0 (.int .i64 0) 1 8 Try.underlying22 hi hz0 hz1 hz2 rfl (by decide) v _ _ rfl (HV.out.own.alloc _) ⟨V.heap.size, 0, none⟩ 1 1 [.int .i64 (atL l x.1)] rfl rfl (cell_one_new _ _ _) (by simp [Value.oneCell']) (by rw [HLN.out]; unfold maxLen; omega) (by rw [HLN.out]; omega) (by have := HV.out.sz; simp; omega) ?_)
              intro v' w4 hown hg hb
              have HT := Lib.hid (HV.out.step hown hg hb)
              obtain ⟨e1, e2, e3, e4, e5⟩ := HV.out.mid hown hg hb
              have HKO := Lib.hid e4
              have HST := Lib.hid e5
              obtain ⟨g', cap', rfl⟩ := ownsRow_succ hown
              clear hown hg hb e4 e5
              refine hK _ _ ?_
              clear hK hc1 hbx
              refine wpAnyIn_ready (rs := [7]) (by kernel_rfl) (by simp) (AllReadyIn.cons rfl (fun K' hK => ?_) AllReadyIn.nil)
              go_simp
              refine hK _ _ ?_
              clear hK
              refine wpAnyIn_ready (rs := [8]) (by kernel_rfl) (by simp) (AllReadyIn.cons rfl (fun K' hK => ?_) AllReadyIn.nil)
              go_simp
              refine hK _ _ ?_
              clear hK
              refine wpAnyIn_done (by kernel_rfl) ?_ _
              gi_wp2
              exact FIN _ _ HKO.out HST.out HT.out
            · go_simp
              refine hK _ _ ?_
              clear hK
              refine wpAnyIn_ready (rs := [1]) (by kernel_rfl) (by simp) (AllReadyIn.cons rfl (fun K' hK => ?_) AllReadyIn.nil)
              go_simp
              refine hK _ _ ?_
              clear hK
              refine wpAnyIn_ready (rs := [6]) (by kernel_rfl) (by simp) (AllReadyIn.cons rfl (fun K' hK => ?_) AllReadyIn.nil)
              refine Eq.mpr (if_pos rfl) (wpIn_append_own_at _ (.tmp 33) (.tmp 37) 22 rfl w3.heap.size 3 i0 (.int .i64 0) 1 8 Try.underlying22 hi hz0 hz1 hz2 rfl (by decide) v _ _ rfl (HV.out.own.alloc _) ⟨V.heap.size, 0, none⟩ 1 1 [.int .i64 (atL l x.1)] rfl rfl (cell_one_new _ _ _) (by simp [Value.oneCell']) (by rw [HLN.out]; unfold maxLen; omega) (by rw [HLN.out]; omega) (by have := HV.out.sz; simp; omega) ?_)
              intro v' w4 hown hg hb
              have HT := Lib.hid (HV.out.step hown hg hb)
              obtain ⟨e1, e2, e3, e4, e5⟩ := HV.out.mid hown hg hb
              have HKO := Lib.hid e4
              have HST := Lib.hid e5
              obtain ⟨g', cap', rfl⟩ := ownsRow_succ hown
              clear hown hg hb e4 e5
              refine hK _ _ ?_
              clear hK hc1 hbx
              refine wpAnyIn_ready (rs := [7]) (by kernel_rfl) (by simp) (AllReadyIn.cons rfl (fun K' hK => ?_) AllReadyIn.nil)
              go_simp
              refine hK _ _ ?_
              clear hK
              refine wpAnyIn_ready (rs := [8]) (by kernel_rfl) (by simp) (AllReadyIn.cons rfl (fun K' hK => ?_) AllReadyIn.nil)
              go_simp
              refine hK _ _ ?_
              clear hK
              refine wpAnyIn_done (by kernel_rfl) ?_ _
              gi_wp2
              exact FIN _ _ HKO.out HST.out HT.out
        · go_simp
          refine hK _ _ ?_
          clear hK
          refine wpAnyIn_ready (rs := [0, 5]) (by kernel_rfl) (by simp) (AllReadyIn.cons rfl (fun K' hK => ?_) (AllReadyIn.cons rfl (fun K' hK => ?_) AllReadyIn.nil))
          · go_simp
            refine hK _ _ ?_
            clear hK
            refine wpAnyIn_ready (rs := [1, 5]) (by kernel_rfl) (by simp) (AllReadyIn.cons rfl (fun K' hK => ?_) (AllReadyIn.cons rfl (fun K' hK => ?_) AllReadyIn.nil))
            · go_simp
              refine hK _ _ ?_
              clear hK
              refine wpAnyIn_ready (rs := [5]) (by kernel_rfl) (by simp) (AllReadyIn.cons rfl (fun K' hK => ?_) AllReadyIn.nil)
              go_simp
              refine hK _ _ ?_
              clear hK
              refine wpAnyIn_ready (rs := [6]) (by kernel_rfl) (by simp) (AllReadyIn.cons rfl (fun K' hK => ?_) AllReadyIn.nil)
              refine Eq.mpr (if_pos rfl) (wpIn_append_own_at _ (.tmp 33) (.tmp 37) 22 rfl w3.heap.size 3 i0 (.int .i64 0) 1 8 Try.underlying22 hi hz0 hz1 hz2 rfl (by decide) v _ _ rfl (HV.out.own.alloc _) ⟨V.heap.size, 0, none⟩ 1 1 [.int .i64 (atL l x.1)] rfl rfl (cell_one_new _ _ _) (by simp [Value.oneCell']) (by rw [HLN.out]; unfold maxLen; omega) (by rw [HLN.out]; omega) (by have := HV.out.sz; simp; omega) ?_)
              intro v' w4 hown hg hb
              have HT := Lib.hid (HV.out.step hown hg hb)
              obtain ⟨e1, e2, e3, e4, e5⟩ := HV.out.mid hown hg hb
              have HKO := Lib.hid e4
              have HST := Lib.hid e5
              obtain ⟨g', cap', rfl⟩ := ownsRow_succ hown
              clear hown hg hb e4 e5
              refine hK _ _ ?_
              clear hK hc1 hbx
              refine wpAnyIn_ready (rs := [7]) (by kernel_rfl) (by simp) (AllReadyIn.cons rfl (fun K' hK => ?_) AllReadyIn.nil)
              go_simp
              refine hK _ _ ?_
              clear hK
              refine wpAnyIn_ready (rs := [8]) (by kernel_rfl) (by simp) (AllReadyIn.cons rfl (fun K' hK => ?_) AllReadyIn.nil)
              go_simp
              refine hK _ _ ?_
              clear hK
              refine wpAnyIn_done (by kernel_rfl) ?_ _
              gi_wp2
              exact FIN _ _ HKO.out HST.out HT.out
            · go_simp
              refine hK _ _ ?_
              clear hK
              refine wpAnyIn_ready (rs := [1]) (by kernel_rfl) (by simp) (AllReadyIn.cons rfl (fun K' hK => ?_) AllReadyIn.nil)
              go_simp
              refine hK _ _ ?_
              clear hK
              refine wpAnyIn_ready (rs := [6]) (by kernel_rfl) (by simp) (AllReadyIn.cons rfl (fun K' hK => ?_) AllReadyIn.nil)
              refine Eq.mpr (if_pos rfl) (wpIn_append_own_at _ (.tmp 33) (.tmp 37) 22 rfl w3.heap.size 3 i0 (.int .i64 0) 1 8 Try.underlying22 hi hz0 hz1 hz2 rfl (by decide) v _ _ rfl (HV.out.own.alloc _) ⟨V.heap.size, 0, none⟩ 1 1 [.int .i64 (atL l x.1)] rfl rfl (cell_one_new _ _ _) (by simp [Value.oneCell']) (by rw [HLN.out]; unfold maxLen; omega) (by rw [HLN.out]; omega) (by have := HV.out.sz; simp; omega) ?_)
              intro v' w4 hown hg hb
              have HT := Lib.hid (HV.out.step hown hg hb)
              obtain ⟨e1, e2, e3, e4, e5⟩ := HV.out.mid hown hg hb
              have HKO := Lib.hid e4
              have HST := Lib.hid e5
              obtain ⟨g', cap', rfl⟩ := ownsRow_succ hown
              clear hown hg hb e4 e5
              refine hK _ _ ?_
              clear hK hc1 hbx
              refine wpAnyIn_ready (rs := [7]) (by kernel_rfl) (by simp) (AllReadyIn.cons rfl (fun K' hK => ?_) AllReadyIn.nil)
              go_simp
              refine hK _ _ ?_
              clear hK
              refine wpAnyIn_ready (rs := [8]) (by kernel_rfl) (by simp) (AllReadyIn.cons rfl (fun K' hK => ?_) AllReadyIn.nil)
              go_simp
              refine hK _ _ ?_
              clear hK
              refine wpAnyIn_done (by kernel_rfl) ?_ _
              gi_wp2
              exact FIN _ _ HKO.out HST.out HT.out
          · go_simp
            refine hK _ _ ?_
            clear hK
            refine wpAnyIn_ready (rs := [0]) (by kernel_rfl) (by simp) (AllReadyIn.cons rfl (fun K' hK => ?_) AllReadyIn.nil)
            go_simp
            refine hK _ _ ?_
            clear hK
            refine wpAnyIn_ready (rs := [1]) (by kernel_rfl) (by simp) (AllReadyIn.cons rfl (fun K' hK => ?_) AllReadyIn.nil)
            go_simp
            refine hK _ _ ?_
            clear hK
            refine wpAnyIn_ready (rs := [6]) (by kernel_rfl) (by simp) (AllReadyIn.cons rfl (fun K' hK => ?_) AllReadyIn.nil)
            refine Eq.mpr (if_pos rfl) (wpIn_append_own_at _ (.tmp 33) (.tmp 37) 22 rfl w3.heap.size 3 i0 (.int .i64 0) 1 8 Try.underlying22 hi hz0 hz1 hz2 rfl (by decide) v _ _ rfl (HV.out.own.alloc _) ⟨V.heap.size, 0, none⟩ 1 1 [.int .i64 (atL l x.1)] rfl rfl (cell_one_new _ _ _) (by simp [Value.oneCell']) (by rw [HLN.out]; unfold maxLen; omega) (by rw [HLN.out]; omega) (by have := HV.out.sz; simp; omega) ?_)
            intro v' w4 hown hg hb
            have HT := Lib.hid (HV.out.step hown hg hb)
            obtain ⟨e1, e2, e3, e4, e5⟩ := HV.out.mid hown hg hb
            have HKO := Lib.hid e4
            have HST := Lib.hid e5
            obtain ⟨g', cap', rfl⟩ := ownsRow_succ hown
            clear hown hg hb e4 e5
            refine hK _ _ ?_
            clear hK hc1 hbx
            refine wpAnyIn_ready (rs := [7]) (by kernel_rfl) (by simp) (AllReadyIn.cons rfl (fun K' hK => ?_) AllReadyIn.nil)
            go_simp
            refine hK _ _ ?_
            clear hK
            refine wpAnyIn_ready (rs := [8]) (by kernel_rfl) (by simp) (AllReadyIn.cons rfl (fun K' hK => ?_) AllReadyIn.nil)
            go_simp
            refine hK _ _ ?_
            clear hK
            refine wpAnyIn_done (by kernel_rfl) ?_ _
            gi_wp2
            exact FIN _ _ HKO.out HST.out HT.out
  case done =>
    rintro D ys W hD hys ⟨v, hT⟩ hK
    rw [hys] at hT
    clear hys
    have hc1' : 1 ≤ cntS l.length 0 M := (cntS_lt (by omega)).2 (by omega)
    have hll : ((startsL l.length M h0 (cntS l.length 0 M)).map fun d : PIx l.length => atL l d.1).length = cntS l.length 0 M := by rw [List.length_map, startsL_len]
    obtain ⟨L, hL⟩ : ∃ L : List Int, L = (startsL l.length M h0 (cntS l.length 0 M)).map fun d : PIx l.length => atL l d.1 := ⟨_, rfl⟩
    rw [← hL] at hT hll
    obtain ⟨g, cg, rfl, hI⟩ := hT.own.ints (by omega)
    have c0 := hT.c0
    have c1 := hT.c1
    have hz := cell_lt c0
    have r0 := hT.r0
    have r1 := hT.r1
    have q0 := hT.g0
    have q1 := hT.g1
    have hz' := cell_lt r0
    have HT := Lib.hid hT
    have HI := Lib.hid hI
    have HL := Lib.hid hL
    have HK := Lib.hid hK
    have HD := Lib.hid hD
    have HLL := Lib.hid hll
    clear hT hI hL hK hD hll
    gi_wp2
    obtain ⟨Y, hY⟩ : ∃ Y, Y = (W.setCell ⟨w.heap.size + 1, 0, none⟩ (.int .i64 ((M : Int) * tau))).setCell ⟨w.heap.size + 1, 1, none⟩ (.slice (some ⟨g, 0, none⟩) L.length cg) := ⟨_, rfl⟩
    rw [← hY]
    have hlt := HT.out.lt
    have hDn : D ≠ w.heap.size + 1 := by have := HD.out; omega
    have hKY : Y.heap[D]? = some (.deferred (some [])) := by
      rw [hY, Below.heap_setCell _ _ _ _ (by show D ≠ w.heap.size + 1; exact hDn), Below.heap_setCell _ _ _ _ (by show D ≠ w.heap.size + 1; exact hDn)]
      exact HK.out
    have hBY : Below w.heap.size w Y := by
      rw [hY]
      exact (HT.out.bel.setCell (by show w.heap.size ≤ w.heap.size + 1; omega) _).setCell (by show w.heap.size ≤ w.heap.size + 1; omega) _
    have hBZ := hBY.trans (belowK_b (w := w) (Nat.le_refl _) Y D _ (.deferred none) (by have := HD.out; omega) hKY rfl rfl)
    have hne : (Value.slice (some ⟨g, 0, none⟩) L.length cg).ownBlock ≠ some (w.heap.size + 1) := fun e => by have := (World.ownsRow.lt HT.out.own _ e).1; omega
    have hOY : OwnI w3.heap.size Y (.slice (some ⟨g, 0, none⟩) L.length cg) L := by
      rw [hY]
      exact (HT.out.own.kept (grownBy_set W (w.heap.size + 1) 0 _) (.inr hne)).kept (grownBy_set _ (w.heap.size + 1) 1 _) (.inr hne)
    have hOZ : OwnI w3.heap.size (Y.putObj D (.deferred none)) (.slice (some ⟨g, 0, none⟩) L.length cg) L := ownsRow_putObj hOY (.deferred none) hKY rfl
    have y0 : Y.cell? ⟨w.heap.size + 1, 0, none⟩ = some (.int .i64 ((M : Int) * tau)) := by
      rw [hY, World.cell?_setCell_other _ ⟨w.heap.size + 1, 1, none⟩ ⟨w.heap.size + 1, 0, none⟩ _ (fun e => by cases e)]
      exact World.cell?_setCell_same _ _ _ r0
    have y1 : Y.cell? ⟨w.heap.size + 1, 1, none⟩ = some (.slice (some ⟨g, 0, none⟩) L.length cg) := by
      rw [hY]
      refine World.cell?_setCell_same _ _ _ (u := .slice none 0 0) ?_
      rw [World.cell?_setCell_other _ ⟨w.heap.size + 1, 0, none⟩ ⟨w.heap.size + 1, 1, none⟩ _ (fun e => by cases e)]
      exact r1
    have hblk : (Y.putObj D (.deferred none)).heap[w.heap.size + 1]? = Y.heap[w.heap.size + 1]? := World.putObj_heap_other (fun e => hDn e.symm)
    have z0 := (World.cell?_of_block (a := ⟨w.heap.size + 1, 0, none⟩) hblk).trans y0
    have z1 := (World.cell?_of_block (a := ⟨w.heap.size + 1, 1, none⟩) hblk).trans y1
    obtain ⟨g2, cg2, hv2, hIZ⟩ := hOZ.ints (by rw [HLL.out]; exact hc1')
    cases hv2
    have hml : L.length ≤ maxLen := by rw [HLL.out]; unfold maxLen; omega
    refine ⟨by simp, .inl ⟨_, _, rfl, run_takeDeferred hKY, ?_⟩⟩
    refine ⟨.tuple #[.agg #[.int .i64 ((M : Int) * tau), .slice (some ⟨g, 0, none⟩) L.length cg], .int .i64 0], by simp [results, Try.results41, go_sem, z0, z1], ?_⟩
    exact ⟨some ⟨g, 0, none⟩, cg, by rw [HLL.out], by rw [← HL.out]; exact ⟨hml, .inr ⟨g, 0, rfl, hIZ⟩⟩, by rw [← HL.out, ← HLL.out]; exact own_low hOZ HAA.out.size, hBZ⟩
  case stop =>
    rintro D c pre W _ _ h _
    exact h.elim
theorem thin_ok (tau : Int) (l : List Int) (b o cap M : Nat) (w : World) (hs : SerIn w l (some ⟨b, o, none⟩)) (hcap : l.length ≤ cap) (h0 : 0 < l.length) (h128 : l.length ≤ 128) (hm : 1 ≤ M ∧ M ≤ 32) (ht : 1 ≤ tau ∧ tau ≤ 1000) (he : stepErr tau l M = 0) (hmt : (M : Int) * tau ≤ 1000) :
    Calls Try.prog 41 #[.agg #[.int .i64 tau, .slice (some ⟨b, o, none⟩) l.length cap], .int .i64 M] w fun e w' => ∃ q c, e = .returned (.tuple #[.agg #[.int .i64 ((M : Int) * tau), .slice q (cntS l.length 0 M) c], .int .i64 0]) ∧
      SerIn w' ((startsL l.length M h0 (cntS l.length 0 M)).map fun d => atL l d.1) q ∧ Below w.heap.size w w' :=
  (thin_own tau l b o cap M w hs hcap h0 h128 hm ht he hmt).mono fun _ _ ⟨q, c, h1, h2, _, h3⟩ => ⟨q, c, h1, h2, h3⟩
end Go.Proofs.Ythkndjkgokojmaa
namespace Go.Proofs.Ythkndjkgokojmaa
open Go Go.RowKit Go.Shelf
attribute [local go_sem] Oper.semAt_some
theorem pair_c0 {w : World} {b : Nat} {x : Value} (u v : Value) (h : w.cell? ⟨b, 0, none⟩ = some x) : ((w.setCell ⟨b, 0, none⟩ u).setCell ⟨b, 1, none⟩ v).cell? ⟨b, 0, none⟩ = some u := by
  rw [World.cell?_setCell_other _ ⟨b, 1, none⟩ ⟨b, 0, none⟩ _ (fun e => by cases e)]
  exact World.cell?_setCell_same _ _ _ h
set_option maxRecDepth 100000 in
set_option maxHeartbeats 2000000 in
theorem thin_err (tau : Int) (l : List Int) (p : Option Addr) (cap : Nat) (m : Int) (w : World) (hs : SerIn w l p) (he : stepErr tau l m ≠ 0) :
    Calls Try.prog 41 #[.agg #[.int .i64 tau, .slice p l.length cap], .int .i64 m] w fun e w' => e = .returned (.tuple #[.agg #[.int .i64 0, .slice none 0 0], .int .i64 (stepErr tau l m)]) ∧ Below w.heap.size w w' := by
  have a0 : Below w.heap.size w ((w.alloc (.cells #[.int .i64 tau, .slice p l.length cap] 28)).alloc (.cells #[.int .i64 0, .slice none 0 0] 28)) := below_alloc (below_alloc (Below.refl _ _) _) _
  have HC := Lib.hid (checkStep_any tau l p cap m _ (hs.below a0))
  have A0 := Lib.hid a0
  have C0 : Hid ((((w.alloc (.cells #[.int .i64 tau, .slice p l.length cap] 28)).alloc (.cells #[.int .i64 0, .slice none 0 0] 28))).cell? ⟨w.heap.size, 0, none⟩ = some (.int .i64 tau)) := Lib.hid (by simp [go_sem])
  have HR0 : Hid ((((w.alloc (.cells #[.int .i64 tau, .slice p l.length cap] 28)).alloc (.cells #[.int .i64 0, .slice none 0 0] 28))).cell? ⟨w.heap.size + 1, 0, none⟩ = some (.int .i64 0)) := Lib.hid (by simp [go_sem])
  have HR1 : Hid ((((w.alloc (.cells #[.int .i64 tau, .slice p l.length cap] 28)).alloc (.cells #[.int .i64 0, .slice none 0 0] 28))).cell? ⟨w.heap.size + 1, 1, none⟩ = some (.slice none 0 0)) := Lib.hid (by simp [go_sem])
  have HQ0 : Hid ((((w.alloc (.cells #[.int .i64 tau, .slice p l.length cap] 28)).alloc (.cells #[.int .i64 0, .slice none 0 0] 28))).frozen? ⟨w.heap.size + 1, 0, none⟩ = false) := Lib.hid (by simp [go_sem])
  have HQ1 : Hid ((((w.alloc (.cells #[.int .i64 tau, .slice p l.length cap] 28)).alloc (.cells #[.int .i64 0, .slice none 0 0] 28))).frozen? ⟨w.heap.size + 1, 1, none⟩ = false) := Lib.hid (by simp [go_sem])
  have hne : (stepErr tau l m != 0) = true := by simpa using he
  clear hs a0 he
  go_enter Try.func41, Try.ntmps41
  go_wp2_with fail
  refine HC.out.mono ?_
  rintro e w1 ⟨rfl, hb⟩
  have d0 := cell_below hb C0.out
  have r0 := cell_below hb HR0.out
  have r1 := cell_below hb HR1.out
  have q0 := (hb.frozen (p := ⟨w.heap.size + 1, 0, none⟩) (cell_lt HR0.out)).trans HQ0.out
  have q1 := (hb.frozen (p := ⟨w.heap.size + 1, 1, none⟩) (cell_lt HR1.out)).trans HQ1.out
  have hz := cell_lt r0
  have hz0 := cell_lt d0
  have HB := Lib.hid (((A0.out.trans (hb.mono A0.out.size)).setCell (p := ⟨w.heap.size + 1, 0, none⟩) (by show w.heap.size ≤ w.heap.size + 1; omega) (.int .i64 0)).setCell (p := ⟨w.heap.size + 1, 1, none⟩) (by show w.heap.size ≤ w.heap.size + 1; omega) (.slice none 0 0))
  have e0 := pair_c0 (.int .i64 0) (.slice none 0 0) r0
  have e1 := two_c1 (.int .i64 0) (.slice none 0 0) r1
  clear hb
  go_wp2
  exact bodyPost_ret (v := .tuple #[.agg #[.int .i64 0, .slice none 0 0], .int .i64 (stepErr tau l m)]) (by simp [results, Try.results41, go_sem, e0, e1]) rfl ⟨rfl, HB.out⟩
set_option maxRecDepth 100000 in
set_option maxHeartbeats 2000000 in
theorem thin_far (tau : Int) (l : List Int) (p : Option Addr) (cap : Nat) (M : Nat) (w : World) (hs : SerIn w l p) (hm : 1 ≤ M ∧ M ≤ 32) (ht : 1 ≤ tau ∧ tau ≤ 1000) (he : stepErr tau l M = 0) (hmt : 1000 < (M : Int) * tau) :
    Calls Try.prog 41 #[.agg #[.int .i64 tau, .slice p l.length cap], .int .i64 M] w fun e w' => e = .returned (.tuple #[.agg #[.int .i64 0, .slice none 0 0], .int .i64 (6)]) ∧ Below w.heap.size w w' := by
  have a0 : Below w.heap.size w ((w.alloc (.cells #[.int .i64 tau, .slice p l.length cap] 28)).alloc (.cells #[.int .i64 0, .slice none 0 0] 28)) := below_alloc (below_alloc (Below.refl _ _) _) _
  have HC := Lib.hid (checkStep_any tau l p cap M _ (hs.below a0))
  have A0 := Lib.hid a0
  have C0 : Hid ((((w.alloc (.cells #[.int .i64 tau, .slice p l.length cap] 28)).alloc (.cells #[.int .i64 0, .slice none 0 0] 28))).cell? ⟨w.heap.size, 0, none⟩ = some (.int .i64 tau)) := Lib.hid (by simp [go_sem])
  have HR0 : Hid ((((w.alloc (.cells #[.int .i64 tau, .slice p l.length cap] 28)).alloc (.cells #[.int .i64 0, .slice none 0 0] 28))).cell? ⟨w.heap.size + 1, 0, none⟩ = some (.int .i64 0)) := Lib.hid (by simp [go_sem])
  have HR1 : Hid ((((w.alloc (.cells #[.int .i64 tau, .slice p l.length cap] 28)).alloc (.cells #[.int .i64 0, .slice none 0 0] 28))).cell? ⟨w.heap.size + 1, 1, none⟩ = some (.slice none 0 0)) := Lib.hid (by simp [go_sem])
  have HQ0 : Hid ((((w.alloc (.cells #[.int .i64 tau, .slice p l.length cap] 28)).alloc (.cells #[.int .i64 0, .slice none 0 0] 28))).frozen? ⟨w.heap.size + 1, 0, none⟩ = false) := Lib.hid (by simp [go_sem])
  have HQ1 : Hid ((((w.alloc (.cells #[.int .i64 tau, .slice p l.length cap] 28)).alloc (.cells #[.int .i64 0, .slice none 0 0] 28))).frozen? ⟨w.heap.size + 1, 1, none⟩ = false) := Lib.hid (by simp [go_sem])
  have wmt : IntKind.i64.wrap ((M : Int) * tau) = M * tau := IntWalk.i64_in _ (by have := mul_bd2 (x := (M : Int)) (y := tau) (a := 32) (b := 1000) (by omega) (by omega); omega)
  have hfar : (1000 : Int) < (M : Int) * tau := hmt
  clear hs a0 hmt hm ht
  go_enter Try.func41, Try.ntmps41
  go_wp2_with fail
  refine HC.out.mono ?_
  rintro e w1 ⟨rfl, hb⟩
  rw [he]
  have d0 := cell_below hb C0.out
  have r0 := cell_below hb HR0.out
  have r1 := cell_below hb HR1.out
  have q0 := (hb.frozen (p := ⟨w.heap.size + 1, 0, none⟩) (cell_lt HR0.out)).trans HQ0.out
  have q1 := (hb.frozen (p := ⟨w.heap.size + 1, 1, none⟩) (cell_lt HR1.out)).trans HQ1.out
  have hz := cell_lt r0
  have hz0 := cell_lt d0
  have HB := Lib.hid (((A0.out.trans (hb.mono A0.out.size)).setCell (p := ⟨w.heap.size + 1, 0, none⟩) (by show w.heap.size ≤ w.heap.size + 1; omega) (.int .i64 0)).setCell (p := ⟨w.heap.size + 1, 1, none⟩) (by show w.heap.size ≤ w.heap.size + 1; omega) (.slice none 0 0))
  have e0 := pair_c0 (.int .i64 0) (.slice none 0 0) r0
  have e1 := two_c1 (.int .i64 0) (.slice none 0 0) r1
  clear hb
  go_wp2
  exact bodyPost_ret (v := .tuple #[.agg #[.int .i64 0, .slice none 0 0], .int .i64 (6)]) (by simp [results, Try.results41, go_sem, e0, e1]) rfl ⟨rfl, HB.out⟩
/-! a series without phases -/
set_option maxRecDepth 100000 in
set_option maxHeartbeats 2000000 in
theorem chunk1_nil (n lp Bs Bn m cap : Nat) (p : Option Addr) (J : List Unit → World → Prop) (P : Prop) (Q : World → Prop) (W : World)
    (h0 : W.cell? ⟨Bs, 0, none⟩ = some (.slice p 0 cap)) (h1 : W.cell? ⟨Bn, 0, none⟩ = some (.int .i64 m)) (hJ0 : J [] W) :
    CallsIn Fence.wide n Try.prog 98 #[.func (.yield lp) #[] #[], .pointer (some ⟨Bs, 0, none⟩), .pointer (some ⟨Bn, 0, none⟩)] W fun e W' => (∃ v, e = .returned v) ∧
      ((∃ ys, ys = ([] : List Unit) ∧ J ys W') ∨ (P ∧ Q W')) := by
  have hro : Fence.wide.round = none := rfl
  refine callsIn_of_wp Try.func98 rfl trivial ?_ hro
  simp only [Try.ntmps98, List.size_toArray, List.length_cons, List.length_nil, Nat.reduceAdd, Nat.reduceSub, Array.replicate_succ, Array.replicate_zero, List.push_toArray, List.append_toArray, List.nil_append, List.cons_append]
  gi_wp2
  gi_loopw [4] (fun i wr => i = .int .i64 0 ∧ wr = W) (fun _ _ => 0)
  case atStart => exact ⟨rfl, rfl⟩
  case round =>
    obtain ⟨rfl, rfl⟩ := hrel
    gi_wp2
    go_end0
    exact ⟨⟨_, rfl⟩, .inl ⟨_, rfl, hJ0⟩⟩
theorem chunk_nil (m cap : Nat) (p : Option Addr) (w : World) (hm : 1 ≤ m ∧ m ≤ 1000) :
    Calls Try.prog 74 #[.slice p 0 cap, .int .i64 m] w fun e w1 => ∃ lb, e = .returned (.func (.func 98) #[] lb) ∧ Below w.heap.size w w1 ∧ w1.heap.size = w.heap.size + 2 ∧
      ∀ n, 1 ≤ n → SeqStopsK Fence.wide n Try.prog 98 lb (fun _ : Unit => #[.slice none 0 0]) (Stay (fun k => w.heap.size ≤ k ∧ k < w.heap.size + 2)) (fun ys => ys = []) (fun pre => pre <+: []) ([] : List Unit).length w1 := by
  have hB0 : Below w.heap.size w ((w.alloc (.cells #[.slice p 0 cap] 22)).alloc (.cells #[.int .i64 m] 3)) := below_alloc (below_alloc (Below.refl _ _) _) _
  have hS0 : ((w.alloc (.cells #[.slice p 0 cap] 22)).alloc (.cells #[.int .i64 m] 3)).cell? ⟨w.heap.size, 0, none⟩ = some (.slice p 0 cap) := by simp [go_sem]
  have hS1 : ((w.alloc (.cells #[.slice p 0 cap] 22)).alloc (.cells #[.int .i64 m] 3)).cell? ⟨w.heap.size + 1, 0, none⟩ = some (.int .i64 m) := by simp [go_sem]
  have HB := Lib.hid hB0
  have HS0 := Lib.hid hS0
  have HS1 := Lib.hid hS1
  have hm1 : ¬ ((m : Int) < 1) := by omega
  clear hB0 hS0 hS1
  go_enter Try.func74, Try.ntmps74
  go_wp2
  go_ret
  refine ⟨_, rfl, HB.out, by simp, ?_⟩
  intro n hn lp J Jx W hW _ _ _ hJ0
  refine (chunk1_nil n lp _ _ m cap p J False (fun _ => False) W (cell_below hW HS0.out) (cell_below hW HS1.out) hJ0).mono ?_
  rintro e W' ⟨h1, h2 | h2⟩
  · exact ⟨h1, .inl h2⟩
  · exact h2.1.elim
set_option maxRecDepth 100000 in
set_option maxHeartbeats 2000000 in
theorem thin_nil (tau : Int) (p : Option Addr) (cap M : Nat) (w : World) (hm : 1 ≤ M ∧ M ≤ 32) (ht : 1 ≤ tau ∧ tau ≤ 1000) (hmt : (M : Int) * tau ≤ 1000) :
    Calls Try.prog 41 #[.agg #[.int .i64 tau, .slice p 0 cap], .int .i64 M] w fun e w' => e = .returned (.tuple #[.agg #[.int .i64 ((M : Int) * tau), .slice none 0 0], .int .i64 0]) ∧ Below w.heap.size w w' := by
  have he : stepErr tau [] M = 0 := by
    have hc : checkSt tau [] = 0 := by
      unfold checkSt
      rw [if_neg (by simp), if_pos ⟨ht, by simp [phasesOk]⟩]
    unfold stepErr
    rw [if_pos hc, if_pos (by omega)]
  refine (callsIn_wide (n := 9)).1 ?_
  have hro : Fence.wide.round = none := rfl
  have a0 : Below w.heap.size w ((w.alloc (.cells #[.int .i64 tau, .slice p 0 cap] 28)).alloc (.cells #[.int .i64 0, .slice none 0 0] 28)) := below_alloc (below_alloc (Below.refl _ _) _) _
  have HC := Lib.hid (show Calls Try.prog 71 #[.agg #[.int .i64 tau, .slice p 0 cap], .int .i64 M] ((w.alloc (.cells #[.int .i64 tau, .slice p 0 cap] 28)).alloc (.cells #[.int .i64 0, .slice none 0 0] 28)) _ from checkStep_any tau [] p cap M _ ⟨by simp [maxLen], .inl rfl⟩)
  have A0 := Lib.hid a0
  have C0 : Hid (SRd ((w.alloc (.cells #[.int .i64 tau, .slice p 0 cap] 28)).alloc (.cells #[.int .i64 0, .slice none 0 0] 28)) w.heap.size tau (.slice p 0 cap)) := Lib.hid ⟨by simp [go_sem], by simp [go_sem]⟩
  have wmt : IntKind.i64.wrap ((M : Int) * tau) = M * tau := IntWalk.i64_in _ (by have := mul_bd2 (x := (M : Int)) (y := tau) (a := 32) (b := 1000) (by omega) (by omega); omega)
  have hmt' : ¬ (1000 < (M : Int) * tau) := by omega
  clear a0
  refine callsIn_of_wp_marks Try.func41 rfl trivial ?_ hro
  simp only [Try.ntmps41, List.size_toArray, List.length_cons, List.length_nil, Nat.reduceAdd, Nat.reduceSub, Array.replicate_succ, Array.replicate_zero, List.push_toArray, List.append_toArray, List.nil_append, List.cons_append]
  gi_wp2
  refine ⟨trivial, (callsIn_wide.2 HC.out).mono ?_⟩
  rintro e w1 ⟨rfl, hb⟩
  rw [he]
  obtain ⟨d0, d1⟩ := C0.out.below hb
  have hz := cell_lt d0
  have A1 := Lib.hid (A0.out.trans (hb.mono A0.out.size))
  have HW0 := Lib.hid (show w.heap.size + 2 ≤ w1.heap.size by have := hb.size; simp at this; omega)
  have HR0 : Hid (w1.cell? ⟨w.heap.size + 1, 0, none⟩ = some (.int .i64 0)) := Lib.hid (cell_below hb (by simp [go_sem]))
  have HR1 : Hid (w1.cell? ⟨w.heap.size + 1, 1, none⟩ = some (.slice none 0 0)) := Lib.hid (cell_below hb (by simp [go_sem]))
  have HQ0 : Hid (w1.frozen? ⟨w.heap.size + 1, 0, none⟩ = false) := Lib.hid ((hb.frozen (p := ⟨w.heap.size + 1, 0, none⟩) (by simp)).trans (by simp [go_sem]))
  have HQ1 : Hid (w1.frozen? ⟨w.heap.size + 1, 1, none⟩ = false) := Lib.hid ((hb.frozen (p := ⟨w.heap.size + 1, 1, none⟩) (by simp)).trans (by simp [go_sem]))
  clear hb
  gi_wp2
  have b2 := below_alloc (Below.refl w1.heap.size w1) (.cells #[.int .i64 ((M : Int) * tau), .slice none 0 0] 28)
  have HG := Lib.hid (fun W => chunk_nil M cap p W (by omega))
  refine ⟨trivial, (callsIn_wide.2 (HG.out (w1.alloc (.cells #[.int .i64 ((M : Int) * tau), .slice none 0 0] 28)))).mono ?_⟩
  rintro e w3 ⟨lb, rfl, hb3, hsz3, hseq⟩
  have hA : Below w.heap.size w w3 := A1.out.trans ((b2.mono A1.out.size).trans (hb3.mono (Nat.le_trans A1.out.size b2.size)))
  have hW1 := HW0.out
  have b23 : Below w1.heap.size w1 w3 := b2.trans (hb3.mono b2.size)
  have hJ0 : ThAt w w3.heap.size w1.heap.size ((M : Int) * tau) [] (.slice none 0 0) w3 :=
    ⟨World.ownsRow_nil _ _ _ _, cell_below hb3 (by simp [go_sem]), cell_below hb3 (by simp [go_sem]), (hb3.frozen (p := ⟨w1.heap.size, 1, none⟩) (by simp)).trans (by simp [go_sem]), ⟨by omega, by rw [hsz3]; simp; omega⟩,
      cell_below b23 HR0.out, cell_below b23 HR1.out, (b23.frozen (p := ⟨w.heap.size + 1, 0, none⟩) (by show w.heap.size + 1 < _; omega)).trans HQ0.out, (b23.frozen (p := ⟨w.heap.size + 1, 1, none⟩) (by show w.heap.size + 1 < _; omega)).trans HQ1.out, hA, Nat.le_refl _⟩
  have hf1 : ∀ k, (w1.alloc (.cells #[.int .i64 ((M : Int) * tau), .slice none 0 0] 28)).heap.size ≤ k ∧ k < (w1.alloc (.cells #[.int .i64 ((M : Int) * tau), .slice none 0 0] 28)).heap.size + 2 → k < w3.heap.size := fun k hk => by rw [hsz3]; exact hk.2
  have HAA := Lib.hid hA
  clear d0 d1 hz HG hb3 b2 b23 A1 HC A0 C0 HR0 HR1 HQ0 HQ1 he
  gi_wp2
  have HOF : OwnFrom w3.heap.size (fun (_ : List Unit) W => ThAt w w3.heap.size w1.heap.size ((M : Int) * tau) [] (.slice none 0 0) W) := by
    rintro s W W' row h hg hr
    exact h.grown hg hr
  refine wpIn_rangeFunc_ownF hro (by decide) (gf := 98) (lb := lb) rfl trivial (enters_of Try.func98 (by kernel_rfl) rfl)
    (hseq 8 (by decide)) (fun h k => h.trans k) (Stay.putObj hf1) (Below.refl _ _) (fun _ => rfl)
    (fun (_ : List Unit) W => ThAt w w3.heap.size w1.heap.size ((M : Int) * tau) [] (.slice none 0 0) W)
    (fun _ _ _ => False)
    HOF
    (fun _ _ _ _ _ hs _ _ => hs)
    hJ0
    (fun _ => { tmps := #[.agg #[.int .i64 tau, .slice p 0 cap], .int .i64 M, .pointer (some ⟨w.heap.size, 0, none⟩), undef, .pointer (some ⟨w.heap.size + 1, 0, none⟩), .int .i64 0, .int .i64 0, .pointer (some ⟨w1.heap.size, 0, none⟩), .slice none 0 0, .agg #[.int .i64 tau, .slice p 0 cap], .int .i64 M, .int .i64 0, .int .i64 0, .bool false, undef, undef, .int .i64 M, .pointer (some ⟨w.heap.size, 0, none⟩), .int .i64 tau, .int .i64 ((M : Int) * tau), .bool (decide (1000 < (M : Int) * tau)), undef, .int .i64 M, .pointer (some ⟨w.heap.size, 0, none⟩), .int .i64 tau, .int .i64 ((M : Int) * tau), .agg #[.int .i64 ((M : Int) * tau), .slice none 0 0], .pointer (some ⟨w.heap.size, 1, none⟩), .slice p 0 cap, .int .i64 M, .func (.func 98) #[] lb, .slice none 0 0, undef, undef, undef, undef, undef, undef, undef, undef, undef], defers := [] }) ?assign ?body ?done ?stop
  case assign =>
    intro l2 x W K hK
    gi_wp2
    exact hK
  case body =>
    rintro l2 pre x W _ hlt
    exact absurd hlt (by simp)
  case done =>
    rintro D ys W hD hys hT hK
    clear hys
    have c0 := hT.c0
    have c1 := hT.c1
    have hz := cell_lt c0
    have r0 := hT.r0
    have r1 := hT.r1
    have q0 := hT.g0
    have q1 := hT.g1
    have hz' := cell_lt r0
    have HT := Lib.hid hT
    have HK := Lib.hid hK
    have HD := Lib.hid hD
    clear hT hK hD
    gi_wp2
    obtain ⟨Y, hY⟩ : ∃ Y, Y = (W.setCell ⟨w.heap.size + 1, 0, none⟩ (.int .i64 ((M : Int) * tau))).setCell ⟨w.heap.size + 1, 1, none⟩ (.slice none 0 0) := ⟨_, rfl⟩
    rw [← hY]
    have hlt := HT.out.lt
    have hDn : D ≠ w.heap.size + 1 := by have := HD.out; omega
    have hKY : Y.heap[D]? = some (.deferred (some [])) := by
      rw [hY, Below.heap_setCell _ _ _ _ (by show D ≠ w.heap.size + 1; exact hDn), Below.heap_setCell _ _ _ _ (by show D ≠ w.heap.size + 1; exact hDn)]
      exact HK.out
    have hBY : Below w.heap.size w Y := by
      rw [hY]
      exact (HT.out.bel.setCell (by show w.heap.size ≤ w.heap.size + 1; omega) _).setCell (by show w.heap.size ≤ w.heap.size + 1; omega) _
    have hBZ := hBY.trans (belowK_b (w := w) (Nat.le_refl _) Y D _ (.deferred none) (by have := HD.out; omega) hKY rfl rfl)
    have y0 : Y.cell? ⟨w.heap.size + 1, 0, none⟩ = some (.int .i64 ((M : Int) * tau)) := by rw [hY]; exact pair_c0 _ _ r0
    have y1 : Y.cell? ⟨w.heap.size + 1, 1, none⟩ = some (.slice none 0 0) := by rw [hY]; exact two_c1 _ _ r1
    have hblk : (Y.putObj D (.deferred none)).heap[w.heap.size + 1]? = Y.heap[w.heap.size + 1]? := World.putObj_heap_other (fun e => hDn e.symm)
    have z0 := (World.cell?_of_block (a := ⟨w.heap.size + 1, 0, none⟩) hblk).trans y0
    have z1 := (World.cell?_of_block (a := ⟨w.heap.size + 1, 1, none⟩) hblk).trans y1
    refine ⟨by simp, .inl ⟨_, _, rfl, run_takeDeferred hKY, ?_⟩⟩
    refine ⟨.tuple #[.agg #[.int .i64 ((M : Int) * tau), .slice none 0 0], .int .i64 0], by simp [results, Try.results41, go_sem, z0, z1], ?_⟩
    exact ⟨rfl, hBZ⟩
  case stop =>
    rintro D c pre W _ _ h _
    exact h.elim
/-! all of it -/
theorem starts_thinned {l : List Int} {M : Nat} (hM : 1 ≤ M) (h0 : 0 < l.length) : Thinned l ((startsL l.length M h0 (cntS l.length 0 M)).map fun d => atL l d.1) M := by
  refine ⟨?_, fun i hi => ?_⟩
  · rw [List.length_map, startsL_len]; simp [cntS]
  · have hc := (cntS_lt (len := l.length) (m := 0) (st := M) (j := i) hM).2 (by omega)
    unfold startsL
    simp only [List.map_map]
    unfold atL
    rw [List.getElem?_map, List.getElem?_range hc]
    simp only [Option.map_some, Function.comp, Option.getD_some]
    rw [startAt_val l.length M h0 i hi]
/-- what Thin hands back of a series and a step that are allowed -/
theorem thin_any (tau : Int) (l : List Int) (p : Option Addr) (cap M : Nat) (w : World) (hs : SerIn w l p) (hcap : l.length ≤ cap) (hm : 1 ≤ M ∧ M ≤ 32) (he : stepErr tau l M = 0) (hmt : (M : Int) * tau ≤ 1000) :
    Calls Try.prog 41 #[.agg #[.int .i64 tau, .slice p l.length cap], .int .i64 M] w fun e w' => ∃ l' q c, e = .returned (.tuple #[.agg #[.int .i64 ((M : Int) * tau), .slice q (List.length l') c], .int .i64 0]) ∧
      Thinned l l' M ∧ SerIn w' l' q ∧ stepErr (M * tau) l' 1 = 0 ∧ Below w.heap.size w w' := by
  obtain ⟨h128, ht, hp, _⟩ := stepErr_zero he
  have hMt : 1 ≤ (M : Int) * tau := by have := Int.mul_pos (show (0 : Int) < M by omega) (show 0 < tau by omega); omega
  have ok : ∀ l' : List Int, l'.length ≤ 128 → phasesOk l' = true → stepErr (M * tau) l' 1 = 0 := fun l' h1 h2 => by
    have hc : checkSt (M * tau) l' = 0 := by
      unfold checkSt
      rw [if_neg (by omega), if_pos ⟨⟨hMt, hmt⟩, h2⟩]
    unfold stepErr
    rw [if_pos hc, if_pos (by omega)]
  by_cases h0 : l = []
  · subst h0
    refine (thin_nil tau p cap M w hm ht hmt).mono ?_
    rintro e w' ⟨rfl, hb⟩
    refine ⟨[], none, 0, rfl, ⟨?_, fun i hi => by simp at hi⟩, ⟨by simp [maxLen], .inl rfl⟩, ok [] (by simp) (by simp [phasesOk]), hb⟩
    show 0 = (0 + M - 1) / M
    rw [Nat.div_eq_of_lt (by omega)]
  · have h0' : 0 < l.length := List.length_pos_iff.2 h0
    obtain ⟨b, o, rfl, hI⟩ := hs.2.resolve_left (by omega)
    refine (thin_ok tau l b o cap M w hs hcap h0' h128 hm ht he hmt).mono ?_
    rintro e w' ⟨q, c, rfl, hs', hb⟩
    have hll : ((startsL l.length M h0' (cntS l.length 0 M)).map fun d : PIx l.length => atL l d.1).length = cntS l.length 0 M := by rw [List.length_map, startsL_len]
    refine ⟨_, q, c, by rw [hll], starts_thinned hm.1 h0', hs', ok _ (by rw [hll]; exact cntS_le128 h128 hm.1) ?_, hb⟩
    refine List.all_eq_true.2 fun x hx => ?_
    obtain ⟨d, _, rfl⟩ := List.mem_map.1 hx
    have := atL_bd hp d.1
    simp only [Bool.and_eq_true, decide_eq_true_eq]
    exact this
end Go.Proofs.Ythkndjkgokojmaa
namespace Go.Proofs.Ythkndjkgokojmaa
open Go Go.RowKit Go.Shelf
/-- each M-th of the first k phases -/
def thinTo (l : List Int) (M : Nat) : Nat → List Int
  | 0 => []
  | k + 1 => if k % M = 0 then thinTo l M k ++ [atL l k] else thinTo l M k
theorem thinTo_spec (l : List Int) (M : Nat) (hM : 1 ≤ M) : ∀ k, (thinTo l M k).length = (k + M - 1) / M ∧ ∀ i, i * M < k → atL (thinTo l M k) i = atL l (i * M)
  | 0 => ⟨by show 0 = (0 + M - 1) / M; rw [Nat.div_eq_of_lt (by omega)], fun i hi => by omega⟩
  | k + 1 => by
    obtain ⟨h1, h2⟩ := thinTo_spec l M hM k
    by_cases hk : k % M = 0
    · obtain ⟨q, hq⟩ : ∃ q, k = M * q := ⟨k / M, by have := Nat.div_add_mod k M; omega⟩
      have hlen : (thinTo l M k).length = q := by
        rw [h1, hq, show M * q + M - 1 = (M - 1) + M * q by omega, Nat.add_mul_div_left _ _ (by omega), Nat.div_eq_of_lt (by omega)]; omega
      have e : thinTo l M (k + 1) = thinTo l M k ++ [atL l k] := if_pos hk
      rw [e]
      refine ⟨?_, fun i hi => ?_⟩
      · rw [List.length_append, hlen, hq, show M * q + 1 + M - 1 = M * q + M by omega, show M * q + M = M * (q + 1) by rw [Nat.mul_add, Nat.mul_one], Nat.mul_div_cancel_left _ (by omega)]; rfl
      · by_cases hi' : i * M < k
        · have hil : i < (thinTo l M k).length := by
            rw [hlen]
            rw [hq, Nat.mul_comm i M] at hi'
            exact Nat.lt_of_mul_lt_mul_left hi'
          have := h2 i hi'
          unfold atL at this ⊢
          rw [List.getElem?_append_left hil]
          exact this
        · have hik : i * M = k := by omega
          have hiq : i = q := by
            rw [hq, Nat.mul_comm i M] at hik
            exact Nat.eq_of_mul_eq_mul_left (by omega) hik
          rw [hik]
          unfold atL
          rw [hiq, ← hlen, List.getElem?_append_right (Nat.le_refl _)]
          simp
    · have e : thinTo l M (k + 1) = thinTo l M k := if_neg hk
      rw [e]
      have hd := Nat.div_add_mod k M
      have hlt := Nat.mod_lt k (show 0 < M by omega)
      refine ⟨?_, fun i hi => h2 i ?_⟩
      · rw [h1, show k + 1 + M - 1 = (k % M) + M * (k / M + 1) by rw [Nat.mul_add]; omega, Nat.add_mul_div_left _ _ (by omega), Nat.div_eq_of_lt hlt,
          show k + M - 1 = (k % M - 1) + M * (k / M + 1) by rw [Nat.mul_add]; omega, Nat.add_mul_div_left _ _ (by omega), Nat.div_eq_of_lt (by omega)]
      · rcases Nat.lt_or_ge (i * M) k with h | h
        · exact h
        · have hik : i * M = k := by omega
          exact absurd (by rw [← hik]; exact Nat.mul_mod_left i M) hk
theorem thinned_to {l : List Int} {M : Nat} (hM : 1 ≤ M) : Thinned l (thinTo l M l.length) M := ⟨(thinTo_spec l M hM _).1, (thinTo_spec l M hM _).2⟩
theorem thinned_eq {l a b : List Int} {M : Nat} (hM : 1 ≤ M) (ha : Thinned l a M) (hb : Thinned l b M) : a = b := by
  refine List.ext_getElem (ha.len.trans hb.len.symm) fun i h1 h2 => ?_
  have hi : i * M < l.length := by
    have h3 : i < (l.length + M - 1) / M := by rw [← ha.len]; exact h1
    have h4 := (Nat.lt_div_iff_mul_lt (show 0 < M by omega)).1 h3
    omega
  rw [atL_get a i h1, atL_get b i h2, ha.at_ i hi, hb.at_ i hi]
def thinErr (tau : Int) (l : List Int) (m : Int) : Int := if stepErr tau l m = 0 then (if m * tau ≤ 1000 then 0 else 6) else stepErr tau l m
def thinLs (tau : Int) (l : List Int) (m : Int) : List Int := if thinErr tau l m = 0 then thinTo l m.toNat l.length else []
def thinTau (tau : Int) (l : List Int) (m : Int) : Int := if thinErr tau l m = 0 then m * tau else 0
theorem thinErr_zero {tau : Int} {l : List Int} {m : Int} (h : thinErr tau l m = 0) : stepErr tau l m = 0 ∧ m * tau ≤ 1000 := by
  unfold thinErr at h
  by_cases h0 : stepErr tau l m = 0
  · rw [if_pos h0] at h
    by_cases h1 : m * tau ≤ 1000
    · exact ⟨h0, h1⟩
    · rw [if_neg h1] at h; omega
  · rw [if_neg h0] at h; exact absurd h h0
/-- Thin of whatever arguments -/
theorem thin_all (tau : Int) (l : List Int) (p : Option Addr) (cap : Nat) (m : Int) (w : World) (hs : SerIn w l p) (hcap : l.length ≤ cap) :
    Calls Try.prog 41 #[.agg #[.int .i64 tau, .slice p l.length cap], .int .i64 m] w fun e w' => ∃ q c, e = .returned (.tuple #[.agg #[.int .i64 (thinTau tau l m), .slice q (thinLs tau l m).length c], .int .i64 (thinErr tau l m)]) ∧
      OwnI w.heap.size w' (.slice q (thinLs tau l m).length c) (thinLs tau l m) ∧ Below w.heap.size w w' := by
  by_cases he : stepErr tau l m = 0
  · obtain ⟨h128, ht, hp, hm⟩ := stepErr_zero he
    obtain ⟨M, rfl⟩ : ∃ M : Nat, m = M := ⟨m.toNat, by omega⟩
    have hM : 1 ≤ M ∧ M ≤ 32 := by omega
    by_cases hmt : (M : Int) * tau ≤ 1000
    · have e1 : thinErr tau l M = 0 := by unfold thinErr; rw [if_pos he, if_pos hmt]
      have e2 : thinLs tau l M = thinTo l M l.length := by unfold thinLs; rw [if_pos e1]; rfl
      have e3 : thinTau tau l M = M * tau := by unfold thinTau; rw [if_pos e1]
      rw [e1, e2, e3]
      by_cases h0 : l = []
      · subst h0
        refine (thin_nil tau p cap M w hM ht hmt).mono ?_
        rintro e w' ⟨rfl, hb⟩
        exact ⟨none, 0, rfl, World.ownsRow_nil _ _ _ _, hb⟩
      · have h0' : 0 < l.length := List.length_pos_iff.2 h0
        obtain ⟨b, o, rfl, hI⟩ := hs.2.resolve_left (by omega)
        refine (thin_own tau l b o cap M w hs hcap h0' h128 hM ht he hmt).mono ?_
        rintro e w' ⟨q, c, rfl, _, hown, hb⟩
        have heq := thinned_eq hM.1 (thinned_to (l := l) hM.1) (starts_thinned hM.1 h0')
        have hll : (thinTo l M l.length).length = cntS l.length 0 M := by rw [heq, List.length_map, startsL_len]
        refine ⟨q, c, by rw [hll], ?_, hb⟩
        rw [hll, heq]
        exact hown
    · have e1 : thinErr tau l M = 6 := by unfold thinErr; rw [if_pos he, if_neg hmt]
      have e2 : thinLs tau l M = [] := by unfold thinLs; rw [if_neg (by omega)]
      have e3 : thinTau tau l M = 0 := by unfold thinTau; rw [if_neg (by omega)]
      rw [e1, e2, e3]
      refine (thin_far tau l p cap M w hs hM ht he (by omega)).mono ?_
      rintro e w' ⟨rfl, hb⟩
      exact ⟨none, 0, rfl, World.ownsRow_nil _ _ _ _, hb⟩
  · have e1 : thinErr tau l m = stepErr tau l m := by unfold thinErr; rw [if_neg he]
    have e2 : thinLs tau l m = [] := by unfold thinLs; rw [e1, if_neg he]
    have e3 : thinTau tau l m = 0 := by unfold thinTau; rw [e1, if_neg he]
    rw [e1, e2, e3]
    refine (thin_err tau l p cap m w hs he).mono ?_
    rintro e w' ⟨rfl, hb⟩
    exact ⟨none, 0, rfl, World.ownsRow_nil _ _ _ _, hb⟩
end Go.Proofs.Ythkndjkgokojmaa
namespace Go.Proofs.Ythkndjkgokojmaa
open Go Go.RowKit Go.Shelf
theorem SAt.app {W Y : World} {b bx : Nat} {tau : Int} {sv v' : Value} {o : Obj} {row : Option Nat} (h : SAt W b tau sv) (hg : (W.alloc o).grownBy Y row) (hne : row ≠ some b) (hbx : bx ≠ b) : SAt (Y.setCell ⟨bx, 1, none⟩ v') b tau sv :=
  ⟨by rw [World.cell?_setCell_far _ _ _ _ hbx]; exact grown_cell hg hne h.1, by rw [World.cell?_setCell_far _ _ _ _ hbx]; exact grown_cell hg hne h.2⟩
theorem rthin_err (tau : Int) (l : List Int) (p : Option Addr) (cap : Nat) (m : Int) (w : World) (hs : SerIn w l p) (he : thinErr tau l m ≠ 0) :
    Calls Try.prog 42 #[.agg #[.int .i64 tau, .slice p l.length cap], .int .i64 m] w fun e w' => e = .returned (.tuple #[.agg #[.int .i64 0, .slice none 0 0], .int .i64 (thinErr tau l m)]) ∧ Below w.heap.size w w' := by
  have a0 : Below w.heap.size w ((w.alloc (.cells #[.int .i64 tau, .slice p l.length cap] 63)).alloc (.cells #[.int .i64 0, .slice none 0 0] 63)) := below_alloc (below_alloc (Below.refl _ _) _) _
  have HC := Lib.hid (rchecked_any tau l p cap m _ (hs.below a0))
  have A0 := Lib.hid a0
  have C0 : Hid (((w.alloc (.cells #[.int .i64 tau, .slice p l.length cap] 63)).alloc (.cells #[.int .i64 0, .slice none 0 0] 63)).cell? ⟨w.heap.size, 0, none⟩ = some (.int .i64 tau)) := Lib.hid (by simp [go_sem])
  have HR0 : Hid (((w.alloc (.cells #[.int .i64 tau, .slice p l.length cap] 63)).alloc (.cells #[.int .i64 0, .slice none 0 0] 63)).cell? ⟨w.heap.size + 1, 0, none⟩ = some (.int .i64 0)) := Lib.hid (by simp [go_sem])
  have HR1 : Hid (((w.alloc (.cells #[.int .i64 tau, .slice p l.length cap] 63)).alloc (.cells #[.int .i64 0, .slice none 0 0] 63)).cell? ⟨w.heap.size + 1, 1, none⟩ = some (.slice none 0 0)) := Lib.hid (by simp [go_sem])
  have HQ0 : Hid (((w.alloc (.cells #[.int .i64 tau, .slice p l.length cap] 63)).alloc (.cells #[.int .i64 0, .slice none 0 0] 63)).frozen? ⟨w.heap.size + 1, 0, none⟩ = false) := Lib.hid (by simp [go_sem])
  have HQ1 : Hid (((w.alloc (.cells #[.int .i64 tau, .slice p l.length cap] 63)).alloc (.cells #[.int .i64 0, .slice none 0 0] 63)).frozen? ⟨w.heap.size + 1, 1, none⟩ = false) := Lib.hid (by simp [go_sem])
  clear hs a0
  by_cases h0 : stepErr tau l m = 0
  · obtain ⟨h128, ht, hp, hm⟩ := stepErr_zero h0
    have hfar : (1000 : Int) < m * tau := by
      unfold thinErr at he
      rw [if_pos h0] at he
      by_cases h1 : m * tau ≤ 1000
      · rw [if_pos h1] at he; exact absurd rfl he
      · omega
    have e6 : thinErr tau l m = 6 := by unfold thinErr; rw [if_pos h0, if_neg (by omega)]
    have wmt : IntKind.i64.wrap (m * tau) = m * tau := IntWalk.i64_in _ (by have := mul_bd2 (x := m) (y := tau) (a := 32) (b := 1000) (by omega) (by omega); omega)
    rw [e6]
    have H0 := Lib.hid h0
    clear he e6 h0
    go_enter Try.func42, Try.ntmps42
    go_wp2_with fail
    refine HC.out.mono ?_
    rintro e w1 ⟨rfl, hb⟩
    rw [H0.out]
    have d0 := cell_below hb C0.out
    have r0 := cell_below hb HR0.out
    have r1 := cell_below hb HR1.out
    have q0 := (hb.frozen (p := ⟨w.heap.size + 1, 0, none⟩) (cell_lt HR0.out)).trans HQ0.out
    have q1 := (hb.frozen (p := ⟨w.heap.size + 1, 1, none⟩) (cell_lt HR1.out)).trans HQ1.out
    have hz := cell_lt r0
    have hz0 := cell_lt d0
    have HB := Lib.hid (((A0.out.trans (hb.mono A0.out.size)).setCell (p := ⟨w.heap.size + 1, 0, none⟩) (by show w.heap.size ≤ w.heap.size + 1; omega) (.int .i64 0)).setCell (p := ⟨w.heap.size + 1, 1, none⟩) (by show w.heap.size ≤ w.heap.size + 1; omega) (.slice none 0 0))
    have e0 := pair_c0 (.int .i64 0) (.slice none 0 0) r0
    have e1 := two_c1 (.int .i64 0) (.slice none 0 0) r1
    clear hb
    go_wp2
    exact bodyPost_ret (v := .tuple #[.agg #[.int .i64 0, .slice none 0 0], .int .i64 6]) (by simp [results, Try.results42, go_sem, e0, e1]) rfl ⟨rfl, HB.out⟩
  · have e6 : thinErr tau l m = stepErr tau l m := by unfold thinErr; rw [if_neg h0]
    rw [e6]
    have hne : (stepErr tau l m != 0) = true := by simpa using h0
    clear he e6 h0
    go_enter Try.func42, Try.ntmps42
    go_wp2_with fail
    refine HC.out.mono ?_
    rintro e w1 ⟨rfl, hb⟩
    have r0 := cell_below hb HR0.out
    have r1 := cell_below hb HR1.out
    have q0 := (hb.frozen (p := ⟨w.heap.size + 1, 0, none⟩) (cell_lt HR0.out)).trans HQ0.out
    have q1 := (hb.frozen (p := ⟨w.heap.size + 1, 1, none⟩) (cell_lt HR1.out)).trans HQ1.out
    have hz := cell_lt r0
    have HB := Lib.hid (((A0.out.trans (hb.mono A0.out.size)).setCell (p := ⟨w.heap.size + 1, 0, none⟩) (by show w.heap.size ≤ w.heap.size + 1; omega) (.int .i64 0)).setCell (p := ⟨w.heap.size + 1, 1, none⟩) (by show w.heap.size ≤ w.heap.size + 1; omega) (.slice none 0 0))
    have e0 := pair_c0 (.int .i64 0) (.slice none 0 0) r0
    have e1 := two_c1 (.int .i64 0) (.slice none 0 0) r1
    clear hb
    go_wp2
    exact bodyPost_ret (v := .tuple #[.agg #[.int .i64 0, .slice none 0 0], .int .i64 (stepErr tau l m)]) (by simp [results, Try.results42, go_sem, e0, e1]) rfl ⟨rfl, HB.out⟩
theorem thinTo_len (l : List Int) (M : Nat) (hM : 1 ≤ M) : ∀ k, (thinTo l M k).length ≤ k
  | 0 => Nat.le_refl _
  | k + 1 => by
    have ih := thinTo_len l M hM k
    show (if k % M = 0 then thinTo l M k ++ [atL l k] else thinTo l M k).length ≤ k + 1
    split
    · rw [List.length_append]; simp; omega
    · omega
set_option maxRecDepth 100000 in
set_option maxHeartbeats 4000000 in
theorem rthin_ok (tau : Int) (l : List Int) (p : Option Addr) (cap M : Nat) (w : World) (hs : SerIn w l p) (hm : 1 ≤ M ∧ M ≤ 32) (h128 : l.length ≤ 128) (ht : 1 ≤ tau ∧ tau ≤ 1000) (he : stepErr tau l M = 0) (hmt : (M : Int) * tau ≤ 1000) :
    Calls Try.prog 42 #[.agg #[.int .i64 tau, .slice p l.length cap], .int .i64 M] w fun e w' => ∃ q c, e = .returned (.tuple #[.agg #[.int .i64 ((M : Int) * tau), .slice q (thinTo l M l.length).length c], .int .i64 0]) ∧
      SliceIn q (thinTo l M l.length).length (IntsAt w' (thinTo l M l.length)) ∧ Below w.heap.size w w' := by
  obtain ⟨i0, hi0, hz0, hz1, hz2⟩ := info_parts infoInt
  have a0 : Below w.heap.size w ((w.alloc (.cells #[.int .i64 tau, .slice p l.length cap] 63)).alloc (.cells #[.int .i64 0, .slice none 0 0] 63)) := below_alloc (below_alloc (Below.refl _ _) _) _
  have HC := Lib.hid (rchecked_any tau l p cap M _ (hs.below a0))
  have HS := Lib.hid hs
  have A0 := Lib.hid a0
  have C0 : Hid (SAt ((w.alloc (.cells #[.int .i64 tau, .slice p l.length cap] 63)).alloc (.cells #[.int .i64 0, .slice none 0 0] 63)) w.heap.size tau (.slice p l.length cap)) := Lib.hid ⟨by simp [go_sem], by simp [go_sem]⟩
  have wmt : IntKind.i64.wrap ((M : Int) * tau) = M * tau := IntWalk.i64_in _ (by have := mul_bd2 (x := (M : Int)) (y := tau) (a := 32) (b := 1000) (by omega) (by omega); omega)
  have hmt' : ¬ (1000 < (M : Int) * tau) := by omega
  have hM0 : ((M : Int) == 0) = false := by simp; omega
  have hM1 : ¬ ((M : Int) = 0) := by omega
  clear hs a0 hmt
  go_enter Try.func42, Try.ntmps42
  go_wp2_with fail
  refine HC.out.mono ?_
  rintro e w1 ⟨rfl, hb⟩
  rw [he]
  have HSA := Lib.hid (C0.out.below hb)
  have A1 := Lib.hid (A0.out.trans (hb.mono A0.out.size))
  have HW0 := Lib.hid (show w.heap.size + 2 ≤ w1.heap.size by have := hb.size; simp at this; omega)
  have HR0 : Hid (w1.cell? ⟨w.heap.size + 1, 0, none⟩ = some (.int .i64 0)) := Lib.hid (cell_below hb (by simp [go_sem]))
  have HR1 : Hid (w1.cell? ⟨w.heap.size + 1, 1, none⟩ = some (.slice none 0 0)) := Lib.hid (cell_below hb (by simp [go_sem]))
  have HQ0 : Hid (w1.frozen? ⟨w.heap.size + 1, 0, none⟩ = false) := Lib.hid ((hb.frozen (p := ⟨w.heap.size + 1, 0, none⟩) (by simp)).trans (by simp [go_sem]))
  have HQ1 : Hid (w1.frozen? ⟨w.heap.size + 1, 1, none⟩ = false) := Lib.hid ((hb.frozen (p := ⟨w.heap.size + 1, 1, none⟩) (by simp)).trans (by simp [go_sem]))
  obtain ⟨c0, c1⟩ := HSA.out
  have hz := cell_lt c0
  clear hb HC C0
  have b2 := below_alloc (Below.refl w1.heap.size w1) (.cells #[.int .i64 ((M : Int) * tau), .slice none 0 0] 63)
  have hT0 : ThAt w (w1.heap.size + 1) w1.heap.size ((M : Int) * tau) [] (.slice none 0 0) (w1.alloc (.cells #[.int .i64 ((M : Int) * tau), .slice none 0 0] 63)) :=
    ⟨World.ownsRow_nil _ _ _ _, by simp, by simp, by simp, ⟨by have := HW0.out; omega, by omega⟩,
      cell_below b2 HR0.out, cell_below b2 HR1.out, (b2.frozen (p := ⟨w.heap.size + 1, 0, none⟩) (by show w.heap.size + 1 < _; have := HW0.out; omega)).trans HQ0.out, (b2.frozen (p := ⟨w.heap.size + 1, 1, none⟩) (by show w.heap.size + 1 < _; have := HW0.out; omega)).trans HQ1.out, A1.out.trans (b2.mono A1.out.size), by simp⟩
  have HT0 := Lib.hid hT0
  have HSB := Lib.hid (HSA.out.below b2)
  clear hT0 b2
  go_upto_region 7 with fail
  generalize w1.alloc (.cells #[.int .i64 ((M : Int) * tau), .slice none 0 0] 63) = X1 at *
  clear c0 c1 hz
  go_wp2
  go_loopw [8] (fun i wr => ∃ (k : Nat) (v : Value), k ≤ l.length ∧ i = .int .i64 (k : Int) ∧ Hid (ThAt w (w1.heap.size + 1) w1.heap.size ((M : Int) * tau) (thinTo l M k) v wr) ∧ Hid (SAt wr w.heap.size tau (.slice p l.length cap))) (fun i _ => l.length - (intOf i).toNat)
  case atStart => exact ⟨0, _, Nat.zero_le _, rfl, HT0, HSB⟩
  case round =>
    obtain ⟨k, v, hk, rfl, HT, HA⟩ := hrel
    obtain ⟨c0, c1⟩ := HA.out
    have hz := cell_lt c0
    have hmd := Nat.mod_lt k (show 0 < M by omega)
    obtain ⟨r, hr⟩ : ∃ r : Nat, r = k % M := ⟨_, rfl⟩
    have v3 : IntKind.i64.wrap ((k : Int) + 1) = (k : Int) + 1 := IntWalk.i64_in _ (by omega)
    have hr' : (k : Int) % (M : Int) = (r : Int) := by rw [hr, Int.natCast_emod]
    have HRR := Lib.hid hr
    have HRI := Lib.hid hr'
    have hr32 : r < 32 := by omega
    clear hr hr' hmd
    by_cases hlt : k < l.length
    · have hkl : (k : Int) < (l.length : Int) := by omega
      by_cases h0 : r = 0
      · have hrr := HRR.out
        have hri := HRI.out
        subst h0
        have f1 : (k : Int) % (M : Int) = 0 := hri
        have f2 : (k : Int).tmod (M : Int) = 0 := by rw [Int.tmod_eq_emod_of_nonneg (by omega)]; exact hri
        have f3 : k % M = 0 := hrr.symm
        have f4 : IntKind.i64.wrap ((k : Int) % (M : Int)) = 0 := by rw [f1]; decide
        obtain ⟨b, o, rfl, hi⟩ := HS.out.2.resolve_left (by omega)
        have x0 := cell_below HT.out.bel (hi k hlt)
        rw [atL_get] at x0
        have HL := Lib.hid (show thinTo l M (k + 1) = thinTo l M k ++ [atL l k] from if_pos hrr.symm)
        have hlen := thinTo_len l M hm.1 k
        have t1 := HT.out.c1
        have t2 := HT.out.f1
        have hz3 := cell_lt t1
        clear hi hrr hri
        go_wp2_with (at_builtin; refine wpList_append_own_at _ rfl (.tmp 41) (.tmp 47) _ rfl (w1.heap.size + 1) 3 i0 (.int .i64 0) 1 8 Try.underlying22 hi0 hz0 hz1 hz2 rfl (by decide) _ _ _ rfl (HT.out.own.alloc _) ⟨_, 0, none⟩ 1 1 [.int .i64 (atL l k)] rfl rfl (cell_one_new _ _ _) (by simp [Value.oneCell']) (by unfold maxLen; omega) (by omega) (by have := HT.out.sz; simp; omega) ?_; intro v' z1 hown hg _ hb; have HT2 := Lib.hid (HT.out.step hown hg hb); obtain ⟨e1, e2, e3, -, -⟩ := HT.out.mid hown hg hb; obtain ⟨gn, cn, rfl⟩ := ownsRow_succ hown; have HA2 := Lib.hid (HA.out.app (bx := w1.heap.size) (v' := .slice (some ⟨gn, 0, none⟩) ((thinTo l M k).length + 1) cn) hg (fun e => by have := (World.ownsRow.lt HT.out.own _ e).1; have := HW0.out; omega) (by have := HW0.out; omega)); clear hown hg hb)
        rw [← HL.out] at HT2
        go_roundw
        case rel => exact ⟨k + 1, _, by omega, by simp, HT2, HA2⟩
        case measure => simp [intOf]; omega
      · have hrr := HRR.out
        have HL := Lib.hid (show thinTo l M (k + 1) = thinTo l M k from if_neg (by omega))
        have hri := HRI.out
        have h0b : ((r : Int) == 0) = false := by simp; omega
        have h0d : ¬ ((r : Int) = 0) := by omega
        have f1 : (k : Int) % (M : Int) = (r : Int) := hri
        have f2 : (k : Int).tmod (M : Int) = (r : Int) := by rw [Int.tmod_eq_emod_of_nonneg (by omega)]; exact hri
        have f4 : IntKind.i64.wrap (r : Int) = (r : Int) := IntWalk.i64_in _ (by omega)
        have HT2 := HT
        rw [← HL.out] at HT2
        clear hrr hri
        go_wp2
        go_roundw
        case rel => exact ⟨k + 1, _, by omega, by simp, HT2, HA⟩
        case measure => simp [intOf]; omega
    · obtain rfl : k = l.length := by omega
      obtain ⟨q, qc, rfl, hsl, hqb⟩ := HT.out.own.ser
      have t0 := HT.out.c0
      have t1 := HT.out.c1
      have r0 := HT.out.r0
      have r1 := HT.out.r1
      have q0 := HT.out.g0
      have q1 := HT.out.g1
      have hz3 := cell_lt t0
      have hz4 := cell_lt r0
      have HSL := Lib.hid hsl
      have HQB := Lib.hid (show ∀ k o, q = some ⟨k, o, none⟩ → w.heap.size + 1 < k from fun k o e => by have := hqb k o e; have := HW0.out; omega)
      have e0 := pair_c0 (.int .i64 ((M : Int) * tau)) (.slice q (thinTo l M l.length).length qc) r0
      have e1 := two_c1 (.int .i64 ((M : Int) * tau)) (.slice q (thinTo l M l.length).length qc) r1
      clear hsl hqb
      go_wp2
      refine bodyPost_ret (v := .tuple #[.agg #[.int .i64 ((M : Int) * tau), .slice q (thinTo l M l.length).length qc], .int .i64 0]) (by simp [results, Try.results42, go_sem, e0, e1]) rfl ⟨_, _, rfl, (HSL.out.set HQB.out).set HQB.out, ?_⟩
      exact (HT.out.bel.setCell (p := ⟨w.heap.size + 1, 0, none⟩) (by show w.heap.size ≤ w.heap.size + 1; omega) _).setCell (p := ⟨w.heap.size + 1, 1, none⟩) (by show w.heap.size ≤ w.heap.size + 1; omega) _
theorem rthin_all (tau : Int) (l : List Int) (p : Option Addr) (cap : Nat) (m : Int) (w : World) (hs : SerIn w l p) :
    Calls Try.prog 42 #[.agg #[.int .i64 tau, .slice p l.length cap], .int .i64 m] w fun e w' => ∃ q c, e = .returned (.tuple #[.agg #[.int .i64 (thinTau tau l m), .slice q (thinLs tau l m).length c], .int .i64 (thinErr tau l m)]) ∧
      SliceIn q (thinLs tau l m).length (IntsAt w' (thinLs tau l m)) ∧ Below w.heap.size w w' := by
  by_cases he : thinErr tau l m = 0
  · obtain ⟨h0, hmt⟩ := thinErr_zero he
    obtain ⟨h128, ht, hp, hm⟩ := stepErr_zero h0
    obtain ⟨M, rfl⟩ : ∃ M : Nat, m = M := ⟨m.toNat, by omega⟩
    have e2 : thinLs tau l M = thinTo l M l.length := by unfold thinLs; rw [if_pos he]; rfl
    have e3 : thinTau tau l M = M * tau := by unfold thinTau; rw [if_pos he]
    rw [he, e2, e3]
    exact rthin_ok tau l p cap M w hs (by omega) h128 ht h0 hmt
  · have e2 : thinLs tau l m = [] := by unfold thinLs; rw [if_neg he]
    have e3 : thinTau tau l m = 0 := by unfold thinTau; rw [if_neg he]
    rw [e2, e3]
    refine (rthin_err tau l p cap m w hs he).mono ?_
    rintro e w' ⟨rfl, hb⟩
    exact ⟨none, 0, rfl, .inl rfl, hb⟩
end Go.Proofs.Ythkndjkgokojmaa
namespace Go.Proofs.Ythkndjkgokojmaa
open Go Go.RowKit
theorem cop_dvd {a b c : Int} (h : Int.gcd a b = 1) (hd : a ∣ b * c) : a ∣ c := by
  have h1 : a.natAbs ∣ b.natAbs * c.natAbs := by rw [← Int.natAbs_mul]; exact Int.natAbs_dvd_natAbs.2 hd
  exact Int.natAbs_dvd_natAbs.1 (Nat.Coprime.dvd_of_dvd_mul_left h h1)
theorem low_cop (n d : Int) (h : 1 ≤ d) : Int.gcd (lowN n d) (lowD n d) = 1 := Int.gcd_ediv_gcd_ediv_gcd (Int.gcd_pos_of_ne_zero_right n (by omega))
theorem low_unique {a C b D : Int} (hC : 1 ≤ C) (hD : 1 ≤ D) (h : a * D = b * C) : lowN a C = lowN b D ∧ lowD a C = lowD b D := by
  have g1 := gcdS_pos a C hC
  have g2 := gcdS_pos b D hD
  have p1 := lowD_pos a C hC
  have p2 := lowD_pos b D hD
  have c1 := low_cop a C hC
  have c2 := low_cop b D hD
  have hx : lowN a C * lowD b D = lowN b D * lowD a C := by
    have hne : gcdS a C * gcdS b D ≠ 0 := Int.mul_ne_zero (by omega) (by omega)
    refine Int.eq_of_mul_eq_mul_left hne ?_
    rw [show gcdS a C * gcdS b D * (lowN a C * lowD b D) = (gcdS a C * lowN a C) * (gcdS b D * lowD b D) by grind, show gcdS a C * gcdS b D * (lowN b D * lowD a C) = (gcdS b D * lowN b D) * (gcdS a C * lowD a C) by grind, gcdS_n, gcdS_d, gcdS_n, gcdS_d, h]
  have d1 : lowD a C ∣ lowD b D := cop_dvd (b := lowN a C) (by rw [Int.gcd_comm]; exact c1) (by rw [hx]; exact Int.dvd_mul_left _ _)
  have d2 : lowD b D ∣ lowD a C := cop_dvd (b := lowN b D) (by rw [Int.gcd_comm]; exact c2) (by rw [← hx]; exact Int.dvd_mul_left _ _)
  have e : lowD a C = lowD b D := Int.le_antisymm (Int.le_of_dvd (by omega) d1) (Int.le_of_dvd (by omega) d2)
  refine ⟨?_, e⟩
  rw [e] at hx
  exact Int.eq_of_mul_eq_mul_right (by omega) hx
theorem swap3 (a b g : Int) : a * (g * b) = b * (g * a) := by grind
theorem lcm_facts {od sd R : Int} (ho : 1 ≤ od) (hs : 1 ≤ sd) (hR : 1 ≤ R) (h1 : od ∣ R) (h2 : sd ∣ R) :
    ∃ q1 q2 t, lowN od sd * sd = od * q1 ∧ lowN od sd * sd = sd * q2 ∧ R = lowN od sd * sd * t ∧ 1 ≤ q1 ∧ 1 ≤ q2 ∧ 1 ≤ t := by
  have g := gcdS_pos od sd hs
  have e1 := gcdS_n od sd
  have e2 := gcdS_d od sd
  have p2 := lowD_pos od sd hs
  have c := low_cop od sd hs
  have p1 : 1 ≤ lowN od sd := by
    rcases Int.lt_or_le (lowN od sd) 1 with h | h
    · have := Int.mul_le_mul_of_nonneg_left (show lowN od sd ≤ 0 by omega) (show 0 ≤ gcdS od sd by omega)
      rw [e1] at this; omega
    · exact h
  obtain ⟨u, hu⟩ := h1
  obtain ⟨v, hv⟩ := h2
  have hx : lowN od sd * u = lowD od sd * v := by
    refine Int.eq_of_mul_eq_mul_left (show gcdS od sd ≠ 0 by omega) ?_
    rw [← Int.mul_assoc, ← Int.mul_assoc, e1, e2, ← hu, ← hv]
  obtain ⟨t, ht⟩ := cop_dvd (a := lowD od sd) (b := lowN od sd) (c := u) (by rw [Int.gcd_comm]; exact c) (by rw [hx]; exact Int.dvd_mul_right _ _)
  have hdd : lowN od sd * sd = od * lowD od sd := by
    have h3 := swap3 (lowN od sd) (lowD od sd) (gcdS od sd)
    rw [e2] at h3
    rw [h3, e1, Int.mul_comm]
  have hRt : R = lowN od sd * sd * t := by rw [hdd, hu, ht, Int.mul_assoc]
  refine ⟨lowD od sd, lowN od sd, t, hdd, Int.mul_comm _ _, hRt, p2, p1, ?_⟩
  rcases Int.lt_or_le t 1 with h | h
  · have := Int.mul_le_mul_of_nonneg_left (show t ≤ 0 by omega) (show 0 ≤ lowN od sd * sd from Int.mul_nonneg (by omega) (by omega))
    rw [← hRt] at this; omega
  · exact h
theorem rest_sum (x : Nat → Int) (d a b c : Int) : ∀ k : Nat, sumF (fun i => (x i * d - a - (i : Int) * b * c) * x i) k = d * sumF (fun i => x i * x i) k - a * sumF x k - b * c * sumF (fun i => (i : Int) * x i) k
  | 0 => by simp [sumF]
  | k + 1 => by
    simp only [sumF]
    rw [rest_sum x d a b c k]
    generalize sumF (fun i => x i * x i) k = Q
    generalize sumF x k = S
    generalize sumF (fun i => (i : Int) * x i) k = M
    generalize x k = y
    generalize (k : Int) = n
    grind
theorem six_all : (List.range 129).all (fun n => decide (6 * squaresS (n : Int) = ((n : Int) - 1) * n * (2 * n - 1)) && decide (2 * placesS (n : Int) = (n : Int) * (n - 1))) = true := by decide +kernel
theorem six_eq {n : Nat} (h : n ≤ 128) : 6 * squaresS (n : Int) = ((n : Int) - 1) * n * (2 * n - 1) ∧ 2 * placesS (n : Int) = (n : Int) * (n - 1) := by
  have := List.all_eq_true.1 six_all n (by simp; omega)
  simpa using this
theorem line_ident (n sq pl S M : Int) (h1 : 6 * sq = (n - 1) * n * (2 * n - 1)) (h2 : 2 * pl = n * (n - 1)) :
    (sq * S - pl * M) * (n * (n * n - 1)) = (S * (n * n - 1) - 3 * (n - 1) * tiltS n S M) * (n * sq - pl * pl) ∧ (n * M - pl * S) * (n * (n * n - 1)) = 6 * tiltS n S M * (n * sq - pl * pl) := by
  have e1 : 12 * (n * sq - pl * pl) = n * n * (n * n - 1) := by
    rw [show 12 * (n * sq - pl * pl) = 2 * n * (6 * sq) - 3 * (2 * pl) * (2 * pl) by grind, h1, h2]; grind
  have e2 : 12 * (sq * S - pl * M) = 2 * ((n - 1) * n * (2 * n - 1)) * S - 6 * (n * (n - 1)) * M := by rw [← h1, ← h2]; grind
  have e3 : 2 * (n * M - pl * S) = 2 * n * M - n * (n - 1) * S := by rw [← h2]; grind
  unfold tiltS
  refine ⟨?_, ?_⟩
  · refine Int.eq_of_mul_eq_mul_left (show (12 : Int) ≠ 0 by decide) ?_
    rw [show 12 * ((sq * S - pl * M) * (n * (n * n - 1))) = 12 * (sq * S - pl * M) * (n * (n * n - 1)) by grind, e2, show 12 * ((S * (n * n - 1) - 3 * (n - 1) * (2 * M - (n - 1) * S)) * (n * sq - pl * pl)) = (S * (n * n - 1) - 3 * (n - 1) * (2 * M - (n - 1) * S)) * (12 * (n * sq - pl * pl)) by grind, e1]
    grind
  · refine Int.eq_of_mul_eq_mul_left (show (12 : Int) ≠ 0 by decide) ?_
    rw [show 12 * ((n * M - pl * S) * (n * (n * n - 1))) = 6 * (2 * (n * M - pl * S)) * (n * (n * n - 1)) by grind, e3, show 12 * (6 * (2 * M - (n - 1) * S) * (n * sq - pl * pl)) = 6 * (2 * M - (n - 1) * S) * (12 * (n * sq - pl * pl)) by grind, e1]
    grind
/-- what the reference's Rest works with -/
structure RestPl (l : List Int) (dd q1 q2 : Int) : Prop where
  d1 : dd = lowD (offN l) (detS l.length) * q1
  d2 : dd = lowD (sloN l) (detS l.length) * q2
  pos : 1 ≤ dd ∧ dd ≤ 200000
  p1 : 1 ≤ q1
  p2 : 1 ≤ q2
  nn : 0 ≤ sumF (fun i => (atL l i * dd - lowN (offN l) (detS l.length) * q1 - (i : Int) * lowN (sloN l) (detS l.length) * q2) * atL l i) l.length
  le : sumF (fun i => (atL l i * dd - lowN (offN l) (detS l.length) * q1 - (i : Int) * lowN (sloN l) (detS l.length) * q2) * atL l i) l.length ≤ 5400000000000000000
  eq : sumF (fun i => (atL l i * dd - lowN (offN l) (detS l.length) * q1 - (i : Int) * lowN (sloN l) (detS l.length) * q2) * atL l i) l.length * restD l.length = restV l * dd
theorem restPl {l : List Int} (hp : phasesOk l = true) (h2 : 2 ≤ l.length) (h48 : l.length ≤ 48) :
    ∃ q1 q2, RestPl l (lowN (lowD (offN l) (detS l.length)) (lowD (sloN l) (detS l.length)) * lowD (sloN l) (detS l.length)) q1 q2 := by
  have hR := (restNums hp h2 h48).d
  have hb := restNums hp h2 h48
  have hD := (lineNums l.length h2 (by omega)).det
  obtain ⟨h6, hpl⟩ := six_eq (n := l.length) (by omega)
  obtain ⟨i1, i2⟩ := line_ident (l.length : Int) (squaresS l.length) (placesS l.length) (totalL l) (momL l) h6 hpl
  have i1' : offN l * restD l.length = (totalL l * ((l.length : Int) * l.length - 1) - 3 * ((l.length : Int) - 1) * tiltS l.length (totalL l) (momL l)) * detS l.length := i1
  have i2' : sloN l * restD l.length = 6 * tiltS l.length (totalL l) (momL l) * detS l.length := i2
  obtain ⟨a1, a2⟩ := low_unique hD.1 hR.1 i1'
  obtain ⟨b1, b2⟩ := low_unique hD.1 hR.1 i2'
  obtain ⟨N1, hN1⟩ : ∃ N1, N1 = totalL l * ((l.length : Int) * l.length - 1) - 3 * ((l.length : Int) - 1) * tiltS l.length (totalL l) (momL l) := ⟨_, rfl⟩
  obtain ⟨N2, hN2⟩ : ∃ N2, N2 = 6 * tiltS l.length (totalL l) (momL l) := ⟨_, rfl⟩
  rw [← hN1] at a1 a2
  rw [← hN2] at b1 b2
  have o1 := lowD_pos (offN l) (detS l.length) hD.1
  have s1 := lowD_pos (sloN l) (detS l.length) hD.1
  have r1 := gcdS_d N1 (restD l.length)
  have r2 := gcdS_d N2 (restD l.length)
  have m1 := gcdS_n N1 (restD l.length)
  have m2 := gcdS_n N2 (restD l.length)
  rw [← a2] at r1
  rw [← b2] at r2
  rw [← a1] at m1
  rw [← b1] at m2
  obtain ⟨q1, q2, t, e1, e2, e3, p1, p2, pt⟩ := lcm_facts o1 s1 hR.1 ⟨gcdS N1 (restD l.length), by rw [Int.mul_comm]; exact r1.symm⟩ ⟨gcdS N2 (restD l.length), by rw [Int.mul_comm]; exact r2.symm⟩
  have hV : restV l = sqL l * restD l.length - totalL l * N1 - momL l * N2 := by
    rw [hN1, hN2]
    show ((l.length : Int) * l.length - 1) * ((l.length : Int) * sqL l - totalL l * totalL l) - 3 * tiltS l.length (totalL l) (momL l) * tiltS l.length (totalL l) (momL l) = _
    unfold restD tiltS
    generalize sqL l = Q
    generalize totalL l = S
    generalize momL l = M
    generalize (l.length : Int) = n
    grind
  have hV0 : 0 ≤ restV l := left_nonneg (atL l) l.length h2
  have hV1 : restV l ≤ 5400000000000000000 := by
    have ha := hb.a
    have ht := hb.t
    have e : restV l = ((l.length : Int) * l.length - 1) * ((l.length : Int) * sqL l - totalL l * totalL l) - 3 * (2 * momL l - ((l.length : Int) - 1) * totalL l) * (2 * momL l - ((l.length : Int) - 1) * totalL l) := rfl
    omega
  generalize hdd : lowN (lowD (offN l) (detS l.length)) (lowD (sloN l) (detS l.length)) * lowD (sloN l) (detS l.length) = dd at *
  have hd1 : 1 ≤ dd := by rw [e1]; have := Int.mul_pos (show 0 < lowD (offN l) (detS l.length) by omega) (show 0 < q1 by omega); omega
  have hd2 : dd ≤ restD l.length := by rw [e3]; have := Int.mul_le_mul_of_nonneg_left pt (show 0 ≤ dd by omega); rw [Int.mul_one] at this; exact this
  obtain ⟨T, hT⟩ : ∃ T, T = sumF (fun i => (atL l i * dd - lowN (offN l) (detS l.length) * q1 - (i : Int) * lowN (sloN l) (detS l.length) * q2) * atL l i) l.length := ⟨_, rfl⟩
  have hTT : T = dd * sqL l - lowN (offN l) (detS l.length) * q1 * totalL l - lowN (sloN l) (detS l.length) * q2 * momL l := by rw [hT]; exact rest_sum (atL l) dd _ _ _ l.length
  have hTR : T * restD l.length = restV l * dd := by
    rw [hTT, hV]
    have k1 : lowN (offN l) (detS l.length) * restD l.length = lowD (offN l) (detS l.length) * N1 := by
      have h3 := swap3 (lowN (offN l) (detS l.length)) (lowD (offN l) (detS l.length)) (gcdS N1 (restD l.length))
      rw [r1, m1] at h3
      exact h3
    have k2 : lowN (sloN l) (detS l.length) * restD l.length = lowD (sloN l) (detS l.length) * N2 := by
      have h3 := swap3 (lowN (sloN l) (detS l.length)) (lowD (sloN l) (detS l.length)) (gcdS N2 (restD l.length))
      rw [r2, m2] at h3
      exact h3
    generalize restD l.length = R at *
    generalize lowN (offN l) (detS l.length) = on at *
    generalize lowD (offN l) (detS l.length) = od at *
    generalize lowN (sloN l) (detS l.length) = sn at *
    generalize lowD (sloN l) (detS l.length) = sd at *
    generalize sqL l = Q at *
    generalize totalL l = S at *
    generalize momL l = M at *
    rw [show (dd * Q - on * q1 * S - sn * q2 * M) * R = dd * Q * R - (on * R) * q1 * S - (sn * R) * q2 * M by grind, k1, k2, show (Q * R - S * N1 - M * N2) * dd = dd * Q * R - dd * (N1 * S) - dd * (N2 * M) by grind]
    rw [show od * N1 * q1 * S = od * q1 * (N1 * S) by grind, show sd * N2 * q2 * M = sd * q2 * (N2 * M) by grind, ← e1, ← e2]
  have hTt : T * t = restV l := by
    refine Int.eq_of_mul_eq_mul_right (show dd ≠ 0 by omega) ?_
    rw [← hTR, e3]; grind
  have hT0 : 0 ≤ T := by
    rcases Int.lt_or_le T 0 with h | h
    · have := Int.mul_pos (show 0 < -T by omega) (show 0 < t by omega)
      rw [Int.neg_mul] at this; omega
    · exact h
  have hT1 : T ≤ restV l := by
    have := Int.mul_le_mul_of_nonneg_left pt hT0
    rw [Int.mul_one, hTt] at this; exact this
  exact ⟨q1, q2, e1, e2, ⟨hd1, by omega⟩, p1, p2, by rw [← hT]; exact hT0, by rw [← hT]; omega, by rw [← hT]; exact hTR⟩
/-! wrapped sums -/
theorem wrap_add_l (x y : Int) : IntKind.i64.wrap (IntKind.i64.wrap x + y) = IntKind.i64.wrap (x + y) := by
  rw [IntKind.wrap_i64, IntKind.wrap_i64, IntKind.wrap_i64]; omega
theorem wrap_add_r (x y : Int) : IntKind.i64.wrap (x + IntKind.i64.wrap y) = IntKind.i64.wrap (x + y) := by
  rw [IntKind.wrap_i64, IntKind.wrap_i64, IntKind.wrap_i64]; omega
theorem wrap_sub_l (x y : Int) : IntKind.i64.wrap (IntKind.i64.wrap x - y) = IntKind.i64.wrap (x - y) := by
  rw [IntKind.wrap_i64, IntKind.wrap_i64, IntKind.wrap_i64]; omega
theorem wrap_sub_r (x y : Int) : IntKind.i64.wrap (x - IntKind.i64.wrap y) = IntKind.i64.wrap (x - y) := by
  rw [IntKind.wrap_i64, IntKind.wrap_i64, IntKind.wrap_i64]; omega
theorem wrap_times (x y : Int) : IntKind.i64.wrap (IntKind.i64.wrap x * y) = IntKind.i64.wrap (x * y) := by
  rw [IntKind.wrap_i64, IntKind.wrap_i64, IntKind.wrap_i64, Int.emod_def (x + 9223372036854775808)]
  generalize (x + 9223372036854775808) / 18446744073709551616 = t
  rw [show (x + 9223372036854775808 - 18446744073709551616 * t - 9223372036854775808) * y + 9223372036854775808 = x * y + 9223372036854775808 + 18446744073709551616 * (-(t * y)) by grind, Int.add_mul_emod_self_left]
end Go.Proofs.Ythkndjkgokojmaa
namespace Go.Proofs.Ythkndjkgokojmaa
open Go Go.RowKit Go.Shelf
theorem rfit_at (tau : Int) (l : List Int) (p : Option Addr) (cap : Nat) (w : World) (hs : SerIn w l p) (V : LineE) (hV : fitE tau l = V) :
    Calls Try.prog 38 #[.agg #[.int .i64 tau, .slice p l.length cap]] w fun e w' => e = .returned (.tuple #[.agg #[.int .i64 V.a, .int .i64 V.b, .int .i64 V.c, .int .i64 V.d], .int .i64 V.e]) ∧ Below w.heap.size w w' := by
  subst hV
  exact rfit_any tau l p cap w hs
/-- the boxes of the reference's Rest -/
structure RsAt (w X : World) (tau : Int) (sv : Value) : Prop where
  s : SAt X w.heap.size tau sv
  r : RBox X (w.heap.size + 1) 0 0
  bel : Below w.heap.size w X
theorem RsAt.below {w X Y : World} {tau : Int} {sv : Value} (h : RsAt w X tau sv) (hb : Below X.heap.size X Y) : RsAt w Y tau sv := ⟨h.s.below hb, h.r.below hb, h.bel.trans (hb.mono h.bel.size)⟩
theorem RsAt.start (w : World) (tau : Int) (sv : Value) : RsAt w ((w.alloc (.cells #[.int .i64 tau, sv] 63)).alloc (.cells #[.int .i64 0, .int .i64 0] 24)) tau sv :=
  ⟨⟨by simp [go_sem], by simp [go_sem]⟩, ⟨by simp [go_sem], by simp [go_sem], by simp [go_sem], by simp [go_sem]⟩, below_alloc (below_alloc (Below.refl _ _) _) _⟩
theorem RsAt.ret {w X : World} {tau : Int} {sv : Value} (h : RsAt w X tau sv) (a b : Int) : Below w.heap.size w ((X.setCell ⟨w.heap.size + 1, 0, none⟩ (.int .i64 a)).setCell ⟨w.heap.size + 1, 1, none⟩ (.int .i64 b)) :=
  (h.bel.setCell (p := ⟨w.heap.size + 1, 0, none⟩) (by show w.heap.size ≤ w.heap.size + 1; omega) _).setCell (p := ⟨w.heap.size + 1, 1, none⟩) (by show w.heap.size ≤ w.heap.size + 1; omega) _
set_option maxRecDepth 100000 in
set_option maxHeartbeats 4000000 in
theorem rrest_err (tau : Int) (l : List Int) (p : Option Addr) (cap : Nat) (w : World) (hs : SerIn w l p) (he : restErr tau l ≠ 0) :
    Calls Try.prog 40 #[.agg #[.int .i64 tau, .slice p l.length cap]] w fun e w' => e = .returned (.tuple #[.agg #[.int .i64 0, .int .i64 0], .int .i64 (restErr tau l)]) ∧ Below w.heap.size w w' := by
  have a0 : Below w.heap.size w ((w.alloc (.cells #[.int .i64 tau, .slice p l.length cap] 63)).alloc (.cells #[.int .i64 0, .int .i64 0] 24)) := below_alloc (below_alloc (Below.refl _ _) _) _
  have hR0 := RsAt.start w tau (.slice p l.length cap)
  obtain ⟨⟨va, vb, vc, vd, ve⟩, hV⟩ : ∃ V, fitE tau l = V := ⟨_, rfl⟩
  have HC := Lib.hid (rfit_at tau l p cap _ (hs.below a0) _ hV)
  have HR0 := Lib.hid hR0
  by_cases h0 : fitErr tau l = 0
  · have h48 : 48 < l.length := by
      unfold restErr at he
      rw [if_pos h0] at he
      by_cases h : 48 < l.length
      · exact h
      · rw [if_neg h] at he; exact absurd rfl he
    have e8 : restErr tau l = 8 := by unfold restErr; rw [if_pos h0, if_pos h48]
    have hi : (48 : Int) < (l.length : Int) := by omega
    obtain rfl : ve = 0 := by
      have := congrArg LineE.e hV
      unfold fitE at this
      rw [if_pos h0] at this
      exact this.symm
    rw [e8]
    clear he e8 h0 hV hs hR0 a0
    go_enter Try.func40, Try.ntmps40
    go_wp2_with fail
    refine HC.out.mono ?_
    rintro e y ⟨rfl, hb⟩
    have hby := hb.trans ((below_alloc (Below.refl y.heap.size y) (.cells #[.int .i64 va, .int .i64 vb, .int .i64 vc, .int .i64 vd] 71)).mono hb.size)
    have HR1 := Lib.hid (HR0.out.below hby)
    clear hb hby
    go_upto_region 4 with fail
    generalize y.alloc (.cells #[.int .i64 va, .int .i64 vb, .int .i64 vc, .int .i64 vd] 71) = X1 at *
    obtain ⟨c0, c1⟩ := HR1.out.s
    obtain ⟨b0, b1, f0, f1⟩ := HR1.out.r
    have hz := cell_lt c0
    have hz2 := cell_lt b0
    obtain ⟨r0, r1⟩ := set2 (.int .i64 0) (.int .i64 0) b0 b1
    go_wp2
    exact bodyPost_ret (v := .tuple #[.agg #[.int .i64 0, .int .i64 0], .int .i64 8]) (by simp [results, Try.results40, go_sem, r0, r1]) rfl ⟨rfl, HR1.out.ret 0 0⟩
  · have e8 : restErr tau l = fitErr tau l := by unfold restErr; rw [if_neg h0]
    have hE : ve = fitErr tau l := by
      have := congrArg LineE.e hV
      unfold fitE at this
      rw [if_neg h0] at this
      exact this.symm
    rw [e8, ← hE]
    have hne : (ve != 0) = true := by rw [hE]; simpa using h0
    have hne2 : (ve == 0) = false := by rw [hE]; simpa using h0
    clear he e8 h0 hV hs hR0 hE a0
    go_enter Try.func40, Try.ntmps40
    go_wp2_with fail
    refine HC.out.mono ?_
    rintro e y ⟨rfl, hb⟩
    have hby := hb.trans ((below_alloc (Below.refl y.heap.size y) (.cells #[.int .i64 va, .int .i64 vb, .int .i64 vc, .int .i64 vd] 71)).mono hb.size)
    have HR1 := Lib.hid (HR0.out.below hby)
    clear hb hby
    go_upto_region 2 with fail
    generalize y.alloc (.cells #[.int .i64 va, .int .i64 vb, .int .i64 vc, .int .i64 vd] 71) = X1 at *
    obtain ⟨b0, b1, f0, f1⟩ := HR1.out.r
    have hz2 := cell_lt b0
    obtain ⟨r0, r1⟩ := set2 (.int .i64 0) (.int .i64 0) b0 b1
    go_wp2
    exact bodyPost_ret (v := .tuple #[.agg #[.int .i64 0, .int .i64 0], .int .i64 ve]) (by simp [results, Try.results40, go_sem, r0, r1]) rfl ⟨rfl, HR1.out.ret 0 0⟩
theorem tdiv_exact {a q : Int} (ha : 1 ≤ a) : (a * q).tdiv a = q := Int.mul_tdiv_cancel_left q (by omega)
set_option maxRecDepth 100000 in
set_option maxHeartbeats 4000000 in
theorem rrest_ok (tau : Int) (l : List Int) (p : Option Addr) (cap : Nat) (w : World) (hs : SerIn w l p) (h0 : fitErr tau l = 0) (h48 : l.length ≤ 48) :
    Calls Try.prog 40 #[.agg #[.int .i64 tau, .slice p l.length cap]] w fun e w' => e = .returned (.tuple #[.agg #[.int .i64 (lowN (restV l) (restD l.length)), .int .i64 (lowD (restV l) (restD l.length))], .int .i64 0]) ∧ Below w.heap.size w w' := by
  have a0 : Below w.heap.size w ((w.alloc (.cells #[.int .i64 tau, .slice p l.length cap] 63)).alloc (.cells #[.int .i64 0, .int .i64 0] 24)) := below_alloc (below_alloc (Below.refl _ _) _) _
  have HR0 := Lib.hid (RsAt.start w tau (.slice p l.length cap))
  obtain ⟨h128, hp, h2⟩ := fitErr_zero h0
  have hV : fitE tau l = ⟨lowN (offN l) (detS l.length), lowD (offN l) (detS l.length), lowN (sloN l) (detS l.length), lowD (sloN l) (detS l.length), 0⟩ := by unfold fitE; rw [if_pos h0]
  have HC := Lib.hid (rfit_at tau l p cap _ (hs.below a0) _ hV)
  have HS := Lib.hid hs
  obtain ⟨q1, q2, hpl⟩ := restPl hp h2 h48
  obtain ⟨hd1, hd2, hpos, hq1, hq2, hn0, hn1, heq⟩ := hpl
  have hD := (lineNums l.length h2 (by omega)).det
  have hR := (restNums hp h2 h48).d
  have o1 := lowD_pos (offN l) (detS l.length) hD.1
  have s1 := lowD_pos (sloN l) (detS l.length) hD.1
  have ole := Int.le_trans (Int.le_of_dvd (by omega) ⟨gcdS (offN l) (detS l.length), by rw [Int.mul_comm]; exact (gcdS_d (offN l) (detS l.length)).symm⟩) hD.2
  have sle := Int.le_trans (Int.le_of_dvd (by omega) ⟨gcdS (sloN l) (detS l.length), by rw [Int.mul_comm]; exact (gcdS_d (sloN l) (detS l.length)).symm⟩) hD.2
  have hlow := fun hc => low_unique (a := sumF (fun i => (atL l i * (lowN (lowD (offN l) (detS l.length)) (lowD (sloN l) (detS l.length)) * lowD (sloN l) (detS l.length)) - lowN (offN l) (detS l.length) * q1 - (i : Int) * lowN (sloN l) (detS l.length) * q2) * atL l i) l.length) hc hR.1 heq
  obtain ⟨lo1, lo2⟩ := hlow hpos.1
  rw [← lo1, ← lo2]
  clear hs hV heq hlow lo1 lo2 hD hR h0 h128 a0
  generalize lowN (offN l) (detS l.length) = on at *
  generalize lowD (offN l) (detS l.length) = od at *
  generalize lowN (sloN l) (detS l.length) = sn at *
  generalize lowD (sloN l) (detS l.length) = sd at *
  generalize hdd : lowN od sd * sd = dd at *
  obtain ⟨F, hF⟩ : ∃ F : Nat → Int, F = fun k => sumF (fun i => (atL l i * dd - on * q1 - (i : Int) * sn * q2) * atL l i) k := ⟨_, rfl⟩
  have hFn : sumF (fun i => (atL l i * dd - on * q1 - (i : Int) * sn * q2) * atL l i) l.length = F l.length := by rw [hF]
  rw [hFn] at hn0 hn1 ⊢
  have HF0 : Hid (F 0 = 0) := Lib.hid (by rw [hF]; rfl)
  have HFS : Hid (∀ k : Nat, F (k + 1) = F k + (atL l k * dd - on * q1 - (k : Int) * sn * q2) * atL l k) := Lib.hid (fun k => by rw [hF]; rfl)
  have g := gcdS_pos od sd s1
  have gl := gcdS_le od sd s1
  have hg0 : (gcdS od sd == 0) = false := by simp; omega
  have hg1 : ¬ gcdS od sd = 0 := by omega
  have hln := low_tdiv od sd
  have hlb : 1 ≤ lowN od sd ∧ lowN od sd ≤ od := by
    have e1 := gcdS_n od sd
    rcases Int.lt_or_le (lowN od sd) 1 with h | h
    · have := Int.mul_le_mul_of_nonneg_left (show lowN od sd ≤ 0 by omega) (show 0 ≤ gcdS od sd by omega)
      rw [e1] at this; omega
    · have := Int.mul_le_mul_of_nonneg_right (show 1 ≤ gcdS od sd by omega) (show 0 ≤ lowN od sd by omega)
      rw [e1, Int.one_mul] at this; exact ⟨h, this⟩
  have u1 : IntKind.i64.wrap (od.tdiv (gcdS od sd)) = lowN od sd := by rw [hln]; exact IntWalk.i64_in _ (by omega)
  have u2 : IntKind.i64.wrap (lowN od sd * sd) = dd := by rw [hdd]; exact IntWalk.i64_in _ (by omega)
  have t1 : dd.tdiv od = q1 := by rw [hd1]; exact tdiv_exact o1
  have t2 : dd.tdiv sd = q2 := by rw [hd2]; exact tdiv_exact s1
  have q1le : q1 ≤ dd := by
    have := Int.mul_le_mul_of_nonneg_right o1 (show 0 ≤ q1 by omega)
    rw [Int.one_mul, ← hd1] at this; exact this
  have q2le : q2 ≤ dd := by
    have := Int.mul_le_mul_of_nonneg_right s1 (show 0 ≤ q2 by omega)
    rw [Int.one_mul, ← hd2] at this; exact this
  have u3 : IntKind.i64.wrap (dd.tdiv od) = q1 := by rw [t1]; exact IntWalk.i64_in _ (by omega)
  have u4 : IntKind.i64.wrap (dd.tdiv sd) = q2 := by rw [t2]; exact IntWalk.i64_in _ (by omega)
  have u5 : IntKind.i64.wrap (dd / od) = q1 := by rw [← Int.tdiv_eq_ediv_of_nonneg (by omega)]; exact u3
  have u6 : IntKind.i64.wrap (dd / sd) = q2 := by rw [← Int.tdiv_eq_ediv_of_nonneg (by omega)]; exact u4
  have u7 : IntKind.i64.wrap (od / gcdS od sd) = lowN od sd := by rw [← Int.tdiv_eq_ediv_of_nonneg (by omega)]; exact u1
  have z1 : (od == 0) = false := by simp; omega
  have z2 : ¬ od = 0 := by omega
  have z3 : (sd == 0) = false := by simp; omega
  have z4 : ¬ sd = 0 := by omega
  have HG := Lib.hid (fun W => rgcd_any od sd W ⟨by omega, by omega⟩ ⟨by omega, by omega⟩)
  have HFR := Lib.hid (fun W => rfrac_any (F l.length) dd W (by omega) (by omega))
  have HWF : Hid (IntKind.i64.wrap (F l.length) = F l.length) := Lib.hid (IntWalk.i64_in _ (by omega))
  have h48i : ¬ ((48 : Int) < (l.length : Int)) := by omega
  have HPA := Lib.hid (fun i => atL_bd hp i)
  clear hF hFn hn0 hn1 hd1 hd2 hq1 hq2 o1 s1 ole sle g gl hln hlb t1 t2 q1le q2le hdd hpos
  generalize lowN od sd = lq at *
  go_enter Try.func40, Try.ntmps40
  go_wp2_with fail
  refine HC.out.mono ?_
  rintro e y ⟨rfl, hb⟩
  have hbx := below_alloc (Below.refl y.heap.size y) (.cells #[.int .i64 on, .int .i64 od, .int .i64 sn, .int .i64 sd] 71)
  have hby := hb.trans (hbx.mono hb.size)
  have HR1 := Lib.hid (HR0.out.below hby)
  have HQ : Hid (QBox (y.alloc (.cells #[.int .i64 on, .int .i64 od, .int .i64 sn, .int .i64 sd] 71)) y.heap.size on od sn sd) := Lib.hid (QBox.new _ _ _ _ _ _)
  have HS1 := Lib.hid (HS.out.below HR1.out.bel)
  clear hb hbx hby HC HR0
  go_upto_region 4 with fail
  generalize y.alloc (.cells #[.int .i64 on, .int .i64 od, .int .i64 sn, .int .i64 sd] 71) = X1 at *
  obtain ⟨c0, c1⟩ := HR1.out.s
  have hz := cell_lt c0
  obtain ⟨k0, k1, k2, k3, -, -, -, -⟩ := HQ.out
  have hzk := cell_lt k0
  go_upto_region 6 with fail
  go_quiet ((go_at_call 63; exact Calls.quiet_of_same ((HG.out _).mono fun _ _ ⟨h1, h2⟩ => ⟨h1, h2.symm⟩)))
  go_wp2
  have hbd : Below X1.heap.size X1 (X1.drewN nq) := below_drewN (Below.refl _ _) nq
  have HR2 := Lib.hid (HR1.out.below hbd)
  have HQ2 := Lib.hid (HQ.out.below hbd)
  have HS2 := Lib.hid (HS1.out.below hbd)
  generalize X1.drewN nq = X2 at *
  clear hbd HR1 HQ HS1 c0 c1 hz k0 k1 k2 k3 hzk HG
  go_loopw [7, 8] (fun t i wr => ∃ k : Nat, k ≤ l.length ∧ i = .int .i64 (k : Int) ∧ t = .int .i64 (IntKind.i64.wrap (F k)) ∧ Hid (Below X2.heap.size X2 wr)) (fun _ i _ => l.length - (intOf i).toNat)
  case atStart => exact ⟨0, Nat.zero_le _, rfl, by rw [HF0.out]; rfl, Lib.hid (Below.refl _ _)⟩
  case round =>
    obtain ⟨k, hk, rfl, rfl, HB⟩ := hrel
    have HR3 := Lib.hid (HR2.out.below HB.out)
    have HQ3 := Lib.hid (HQ2.out.below HB.out)
    obtain ⟨c0, c1⟩ := HR3.out.s
    have hz := cell_lt c0
    by_cases hlt : k < l.length
    · have hkl : (k : Int) < (l.length : Int) := by omega
      obtain ⟨b, o, rfl, hi⟩ := HS2.out.2.resolve_left (by omega)
      have x0 := cell_below HB.out (hi k hlt)
      rw [atL_get] at x0
      obtain ⟨k0, k1, k2, k3, -, -, -, -⟩ := HQ3.out
      have hzk := cell_lt k0
      have HSS := Lib.hid (HFS.out k)
      have v9 : IntKind.i64.wrap ((k : Int) + 1) = (k : Int) + 1 := IntWalk.i64_in _ (by omega)
      clear hi
      generalize atL l k = x at *
      obtain ⟨A1, g1⟩ : ∃ u, IntKind.i64.wrap (x * dd) = u := ⟨_, rfl⟩
      obtain ⟨A2, g2⟩ : ∃ u, IntKind.i64.wrap (on * q1) = u := ⟨_, rfl⟩
      obtain ⟨A3, g3⟩ : ∃ u, IntKind.i64.wrap (A1 - A2) = u := ⟨_, rfl⟩
      obtain ⟨A4, g4⟩ : ∃ u, IntKind.i64.wrap ((k : Int) * sn) = u := ⟨_, rfl⟩
      obtain ⟨A5, g5⟩ : ∃ u, IntKind.i64.wrap (A4 * q2) = u := ⟨_, rfl⟩
      obtain ⟨A6, g6⟩ : ∃ u, IntKind.i64.wrap (A3 - A5) = u := ⟨_, rfl⟩
      obtain ⟨A7, g7⟩ : ∃ u, IntKind.i64.wrap (A6 * x) = u := ⟨_, rfl⟩
      obtain ⟨T0, hT0⟩ : ∃ u, IntKind.i64.wrap (F k) = u := ⟨_, rfl⟩
      have g8 : IntKind.i64.wrap (T0 + A7) = IntKind.i64.wrap (F (k + 1)) := by
        rw [HSS.out, ← hT0, ← g7, ← g6, ← g5, ← g4, ← g3, ← g2, ← g1]
        simp only [wrap_add_l, wrap_add_r, wrap_sub_l, wrap_sub_r, wrap_times]
      obtain ⟨T1, hT1⟩ : ∃ u, IntKind.i64.wrap (F (k + 1)) = u := ⟨_, rfl⟩
      rw [hT1] at g8
      rw [hT0]
      have HT1 := Lib.hid hT1
      clear hT0 hT1
      go_wp2
      go_quiet (fail)
      go_wp2
      go_roundw
      case rel => exact ⟨k + 1, by omega, by simp, by rw [HT1.out], Lib.hid (below_drewN HB.out _)⟩
      case measure => simp [intOf]; omega
    · obtain rfl : k = l.length := by omega
      rw [HWF.out]
      go_wp2_with fail
      refine (HFR.out _).mono ?_
      rintro e z ⟨rfl, hb⟩
      have HR4 := Lib.hid (HR3.out.below hb)
      obtain ⟨b0, b1, f0, f1⟩ := HR4.out.r
      have hz2 := cell_lt b0
      obtain ⟨r0, r1⟩ := set2 (.int .i64 (lowN (F l.length) dd)) (.int .i64 (lowD (F l.length) dd)) b0 b1
      clear hb c0 c1 hz
      go_wp2
      exact bodyPost_ret (v := .tuple #[.agg #[.int .i64 (lowN (F l.length) dd), .int .i64 (lowD (F l.length) dd)], .int .i64 0]) (by simp [results, Try.results40, go_sem, r0, r1]) rfl ⟨rfl, HR4.out.ret _ _⟩
theorem rrest_any (tau : Int) (l : List Int) (p : Option Addr) (cap : Nat) (w : World) (hs : SerIn w l p) (V : FracE) (hV : restE tau l = V) :
    Calls Try.prog 40 #[.agg #[.int .i64 tau, .slice p l.length cap]] w fun e w' => e = .returned (.tuple #[.agg #[.int .i64 V.n, .int .i64 V.d], .int .i64 V.e]) ∧ Below w.heap.size w w' := by
  subst hV
  unfold restE
  by_cases he : restErr tau l = 0
  · rw [if_pos he]
    have h0 : fitErr tau l = 0 ∧ l.length ≤ 48 := by
      unfold restErr at he
      by_cases h : fitErr tau l = 0
      · rw [if_pos h] at he
        by_cases h4 : 48 < l.length
        · rw [if_pos h4] at he; omega
        · exact ⟨h, by omega⟩
      · rw [if_neg h] at he; exact absurd he h
    exact rrest_ok tau l p cap w hs h0.1 h0.2
  · rw [if_neg he]
    exact rrest_err tau l p cap w hs he
end Go.Proofs.Ythkndjkgokojmaa
namespace Go.Proofs.Ythkndjkgokojmaa
open Go Go.RowKit Go.Shelf
theorem ofit_at (tau : Int) (l : List Int) (p : Option Addr) (cap : Nat) (w : World) (hs : SerIn w l p) (V : LineE) (hV : fitE tau l = V) :
    Calls Try.prog 24 #[.agg #[.int .i64 tau, .slice p l.length cap]] w fun e w' => e = .returned (.tuple #[.agg #[.int .i64 V.a, .int .i64 V.b, .int .i64 V.c, .int .i64 V.d], .int .i64 V.e]) ∧ Below w.heap.size w w' := by
  subst hV
  exact fit_any tau l p cap w hs
theorem orest_at (tau : Int) (l : List Int) (p : Option Addr) (cap : Nat) (w : World) (hs : SerIn w l p) (V : FracE) (hV : restE tau l = V) :
    Calls Try.prog 39 #[.agg #[.int .i64 tau, .slice p l.length cap]] w fun e w' => e = .returned (.tuple #[.agg #[.int .i64 V.n, .int .i64 V.d], .int .i64 V.e]) ∧ Below w.heap.size w w' := by
  subst hV
  exact Rest_any tau l p cap w hs
/-- what lies about the loop of fits -/
structure FitAt (w X : World) (b5 b13 g : Nat) (tau T : Int) (l : List Int) (p p1 p2 q : Option Addr) (cap c1 c2 n c : Nat) (L : List Int) : Prop where
  v : VarsAt w X b5 tau l p p1 p2 cap c1 c2
  s : SAt X b13 T (.slice q n c)
  i : IntBox X g L
  gt : b5 + 1 < g
  ne : 1 ≤ n → g ≠ b13
theorem FitAt.step {w X : World} {b5 b13 g : Nat} {tau T : Int} {l : List Int} {p p1 p2 q : Option Addr} {cap c1 c2 n c : Nat} {L : List Int} (h : FitAt w X b5 b13 g tau T l p p1 p2 q cap c1 c2 n c L) (j : Nat) (hj : j < L.length) (hn : 1 ≤ n) (x : Int) :
    FitAt w (X.setCell ⟨g, j, none⟩ (.int .i64 x)) b5 b13 g tau T l p p1 p2 q cap c1 c2 n c (L.set j x) :=
  ⟨h.v.far h.gt, h.s.far (h.ne hn), h.i.set j x hj, h.gt, h.ne⟩
theorem thinLs_len (tau : Int) (l : List Int) (m : Int) : (thinLs tau l m).length ≤ maxLen := by
  unfold thinLs
  by_cases h : thinErr tau l m = 0
  · rw [if_pos h]
    obtain ⟨h128, _, _, hm⟩ := stepErr_zero (thinErr_zero h).1
    have := thinTo_len l m.toNat (by omega) l.length
    unfold maxLen; omega
  · rw [if_neg h]; simp [maxLen]
set_option maxRecDepth 100000 in
set_option maxHeartbeats 8000000 in
theorem fits_law (tau : Int) (l : List Int) (p : Option Addr) (cap : Nat) (m : Int) (w : World) (hs : SerIn w l p) (h200 : l.length ≤ 200) :
    Calls Try.prog 9 #[.agg #[.int .i64 tau, .slice p l.length cap], .int .i64 m] w fun e w' => e = .returned (.bool true) ∧ Below w.heap.size w w' := by
  have a0 := below_alloc (Below.refl w.heap.size w) (.cells #[.int .i64 tau, .slice p l.length cap] 28)
  have HSE := Lib.hid (series_cap tau l p cap _ (hs.below a0).2 (by omega))
  have HS := Lib.hid hs
  have A0 := Lib.hid a0
  have k0 : Hid (SAt (w.alloc (.cells #[.int .i64 tau, .slice p l.length cap] 28)) w.heap.size tau (.slice p l.length cap)) := Lib.hid ⟨by simp, by simp⟩
  obtain ⟨⟨fa, fb, fc, fd, fe⟩, hv0⟩ : ∃ V, fitE tau l = V := ⟨_, rfl⟩
  obtain ⟨⟨rn, rd, re⟩, hv1⟩ : ∃ V, restE tau l = V := ⟨_, rfl⟩
  have HV0 := Lib.hid hv0
  have HV1 := Lib.hid hv1
  clear hs a0 hv0 hv1
  go_enter Try.func9, Try.ntmps9
  go_wp2_with fail
  refine HSE.out.mono ?_
  rintro e y1 ⟨p1, c1, p2, c2, rfl, hs1, hs2, hb, hcc⟩
  have HCC := Lib.hid hcc
  have hby := hb.trans ((below_alloc (below_alloc (Below.refl y1.heap.size y1) (.cells #[.int .i64 tau, .slice p1 l.length c1] 28)) (.cells #[.int .i64 tau, .slice p2 l.length c2] 63)).mono hb.size)
  have hbz : Below y1.heap.size y1 ((y1.alloc (.cells #[.int .i64 tau, .slice p1 l.length c1] 28)).alloc (.cells #[.int .i64 tau, .slice p2 l.length c2] 63)) := below_alloc (below_alloc (Below.refl _ _) _) _
  have hlt : w.heap.size < y1.heap.size := by have := hb.size; simp at this; omega
  have HVA : Hid (VarsAt w ((y1.alloc (.cells #[.int .i64 tau, .slice p1 l.length c1] 28)).alloc (.cells #[.int .i64 tau, .slice p2 l.length c2] 63)) y1.heap.size tau l p p1 p2 cap c1 c2) :=
    Lib.hid ⟨(il_of ((HS.out.below A0.out).below hb).2 (Nat.le_refl _)).imp fun _ _ h => h.below hbz, (il_of hs1 (Nat.le_refl _)).imp fun _ _ h => h.below hbz, (il_of hs2 (Nat.le_refl _)).imp fun _ _ h => h.below hbz,
      k0.out.below hby, ⟨by simp [go_sem], by simp [go_sem]⟩, ⟨by simp [go_sem], by simp [go_sem]⟩, A0.out.trans (hby.mono A0.out.size), hlt, h200⟩
  have HSZ := Lib.hid (show y1.heap.size + 1 < ((y1.alloc (.cells #[.int .i64 tau, .slice p1 l.length c1] 28)).alloc (.cells #[.int .i64 tau, .slice p2 l.length c2] 63)).heap.size by simp)
  clear hb hby hbz hlt hs1 hs2 HSE k0 HS A0 hcc
  go_upto_region 2 with fail
  generalize (y1.alloc (.cells #[.int .i64 tau, .slice p1 l.length c1] 28)).alloc (.cells #[.int .i64 tau, .slice p2 l.length c2] 63) = X1 at *
  obtain ⟨g0, g1⟩ := HVA.out.r1
  have hz := cell_lt g0
  go_wp2_with fail
  refine (ofit_at tau l p1 c1 _ HVA.out.s1 _ HV0.out).mono ?_
  rintro e ya ⟨rfl, hb⟩
  have hby := hb.trans ((below_alloc (Below.refl ya.heap.size ya) (.cells #[.int .i64 fa, .int .i64 fb, .int .i64 fc, .int .i64 fd] 60)).mono hb.size)
  have HVB := Lib.hid (HVA.out.below hby)
  have HSB := Lib.hid (Nat.lt_of_lt_of_le HSZ.out hby.size)
  have J1 : Hid (QBox (ya.alloc (.cells #[.int .i64 fa, .int .i64 fb, .int .i64 fc, .int .i64 fd] 60)) ya.heap.size fa fb fc fd) := Lib.hid (QBox.new _ _ _ _ _ _)
  clear hb hby g0 g1 hz HVA HSZ
  go_upto_region 3 with fail
  generalize ya.alloc (.cells #[.int .i64 fa, .int .i64 fb, .int .i64 fc, .int .i64 fd] 60) = X2 at *
  obtain ⟨g0, g1⟩ := HVB.out.r2
  have hz := cell_lt g0
  go_wp2_with fail
  refine (rfit_at tau l p2 c2 _ HVB.out.s2 _ HV0.out).mono ?_
  rintro e yb ⟨rfl, hb⟩
  have hby := hb.trans ((below_alloc (Below.refl yb.heap.size yb) (.cells #[.int .i64 fa, .int .i64 fb, .int .i64 fc, .int .i64 fd] 71)).mono hb.size)
  have HVC := Lib.hid (HVB.out.below hby)
  have HSC := Lib.hid (Nat.lt_of_lt_of_le HSB.out hby.size)
  have J1' := Lib.hid (J1.out.below hby)
  have J2 : Hid (QBox (yb.alloc (.cells #[.int .i64 fa, .int .i64 fb, .int .i64 fc, .int .i64 fd] 71)) yb.heap.size fa fb fc fd) := Lib.hid (QBox.new _ _ _ _ _ _)
  clear hb hby g0 g1 hz HVB HSB J1
  go_upto_region 4 with fail
  generalize yb.alloc (.cells #[.int .i64 fa, .int .i64 fb, .int .i64 fc, .int .i64 fd] 71) = X3 at *
  obtain ⟨a0, a1, a2, a3, -, -, -, -⟩ := J1'.out
  obtain ⟨b0, b1, b2, b3, -, -, -, -⟩ := J2.out
  have hz := cell_lt a0
  have hz2 := cell_lt b0
  go_upto_region 6 with fail
  clear a0 a1 a2 a3 b0 b1 b2 b3 hz hz2 J1' J2 HV0
  obtain ⟨g0, g1⟩ := HVC.out.r1
  have hz := cell_lt g0
  go_wp2_with fail
  refine (orest_at tau l p1 c1 _ HVC.out.s1 _ HV1.out).mono ?_
  rintro e yc ⟨rfl, hb⟩
  have hby := hb.trans ((below_alloc (Below.refl yc.heap.size yc) (.cells #[.int .i64 rn, .int .i64 rd] 24)).mono hb.size)
  have HVD := Lib.hid (HVC.out.below hby)
  have HSD := Lib.hid (Nat.lt_of_lt_of_le HSC.out hby.size)
  have J3 : Hid (RBox (yc.alloc (.cells #[.int .i64 rn, .int .i64 rd] 24)) yc.heap.size rn rd) := Lib.hid (RBox.new _ _ _ _)
  clear hb hby g0 g1 hz HVC HSC
  go_upto_region 7 with fail
  generalize yc.alloc (.cells #[.int .i64 rn, .int .i64 rd] 24) = X4 at *
  obtain ⟨g0, g1⟩ := HVD.out.r2
  have hz := cell_lt g0
  go_wp2_with fail
  refine (rrest_any tau l p2 c2 _ HVD.out.s2 _ HV1.out).mono ?_
  rintro e yd ⟨rfl, hb⟩
  have hby := hb.trans ((below_alloc (Below.refl yd.heap.size yd) (.cells #[.int .i64 rn, .int .i64 rd] 24)).mono hb.size)
  have HVE := Lib.hid (HVD.out.below hby)
  have HSE := Lib.hid (Nat.lt_of_lt_of_le HSD.out hby.size)
  have J3' := Lib.hid (J3.out.below hby)
  have J4 : Hid (RBox (yd.alloc (.cells #[.int .i64 rn, .int .i64 rd] 24)) yd.heap.size rn rd) := Lib.hid (RBox.new _ _ _ _)
  clear hb hby g0 g1 hz HVD HSD J3
  go_upto_region 8 with fail
  generalize yd.alloc (.cells #[.int .i64 rn, .int .i64 rd] 24) = X5 at *
  obtain ⟨a0, a1, -, -⟩ := J3'.out
  obtain ⟨b0, b1, -, -⟩ := J4.out
  have hz := cell_lt a0
  have hz2 := cell_lt b0
  go_upto_region 10 with fail
  clear a0 a1 b0 b1 hz hz2 J3' J4 HV1
  obtain ⟨g0, g1⟩ := HVE.out.r1
  have hz := cell_lt g0
  go_wp2_with fail
  refine (thin_all tau l p1 c1 m _ HVE.out.s1 HCC.out).mono ?_
  rintro e ye ⟨q, qc, rfl, hown, hb⟩
  obtain ⟨L, hL⟩ : ∃ L, L = thinLs tau l m := ⟨_, rfl⟩
  have HLL : Hid (L.length ≤ maxLen) := Lib.hid (by rw [hL]; exact thinLs_len tau l m)
  rw [← hL] at hown ⊢
  have HL := Lib.hid hL
  have hby := hb.trans ((below_alloc (Below.refl ye.heap.size ye) (.cells #[.int .i64 (thinTau tau l m), .slice q L.length qc] 28)).mono hb.size)
  have hbx := below_alloc (Below.refl ye.heap.size ye) (.cells #[.int .i64 (thinTau tau l m), .slice q L.length qc] 28)
  have HVF := Lib.hid (HVE.out.below hby)
  obtain ⟨g, hg1, hg2, hg3⟩ := hown.box
  have HG1 := Lib.hid (show y1.heap.size + 1 < g from Nat.lt_of_lt_of_le HSE.out hg1)
  have HG2 := Lib.hid (hg2.below hbx)
  have HG3 := Lib.hid hg3
  have HSR := Lib.hid (hown.ser)
  have HTS : Hid (SAt (ye.alloc (.cells #[.int .i64 (thinTau tau l m), .slice q L.length qc] 28)) ye.heap.size (thinTau tau l m) (.slice q L.length qc)) := Lib.hid ⟨by simp, by simp⟩
  clear hb hby hbx g0 g1 hz HVE HSE hown hg1 hg2 hg3 hL HCC HSR
  go_upto_region 11 with fail
  generalize ye.alloc (.cells #[.int .i64 (thinTau tau l m), .slice q L.length qc] 28) = X6 at *
  obtain ⟨g0, g1⟩ := HVF.out.r2
  have hz := cell_lt g0
  go_wp2_with fail
  refine (rthin_all tau l p2 c2 m _ HVF.out.s2).mono ?_
  rintro e yf ⟨q2, qd, rfl, hq2, hb⟩
  rw [← HL.out] at hq2 ⊢
  have hby := hb.trans ((below_alloc (Below.refl yf.heap.size yf) (.cells #[.int .i64 (thinTau tau l m), .slice q2 L.length qd] 63)).mono hb.size)
  have hbx := below_alloc (Below.refl yf.heap.size yf) (.cells #[.int .i64 (thinTau tau l m), .slice q2 L.length qd] 63)
  have HVH := Lib.hid (HVF.out.below hby)
  have HG4 := Lib.hid (HG2.out.below hby)
  have HTT := Lib.hid (HTS.out.below hby)
  have HQ2 : Hid (SliceIn q2 L.length (IntsAt (yf.alloc (.cells #[.int .i64 (thinTau tau l m), .slice q2 L.length qd] 63)) L)) := Lib.hid (hq2.imp fun _ _ h => h.below hbx)
  have HTU : Hid (SAt (yf.alloc (.cells #[.int .i64 (thinTau tau l m), .slice q2 L.length qd] 63)) yf.heap.size (thinTau tau l m) (.slice q2 L.length qd)) := Lib.hid ⟨by simp, by simp⟩
  clear hb hby hbx g0 g1 hz HVF HG2 HTS hq2 HL
  go_upto_region 12 with fail
  generalize yf.alloc (.cells #[.int .i64 (thinTau tau l m), .slice q2 L.length qd] 63) = X7 at *
  have HQ1 : Hid (SliceIn q L.length (IntsAt X7 L)) := Lib.hid (by
    by_cases h0 : L.length = 0
    · exact .inl h0
    · exact .inr ⟨g, 0, (HG3.out (by omega)).1, fun i hi => by rw [Nat.zero_add]; exact (HG4.out i hi).1⟩)
  obtain ⟨a0, a1⟩ := HTT.out
  obtain ⟨b0, b1⟩ := HTU.out
  have hz := cell_lt a0
  have hz2 := cell_lt b0
  go_wp2_with fail
  refine (equal_yes L q q2 qc qd _ HQ1.out HQ2.out HLL.out).mono ?_
  rintro e yg ⟨rfl, hb⟩
  have HFA : Hid (FitAt w yg y1.heap.size ye.heap.size g tau (thinTau tau l m) l p p1 p2 q cap c1 c2 L.length qc L) :=
    Lib.hid ⟨HVH.out.below hb, HTT.out.below hb, HG4.out.below hb, HG1.out, fun h => by have := (HG3.out h).2; omega⟩
  clear hb a0 a1 b0 b1 hz hz2 HVH HTT HG4 HTU HQ1 HQ2
  go_upto_region 14 with fail
  obtain ⟨a0, a1⟩ := HFA.out.s
  have hz := cell_lt a0
  go_wp2
  clear a0 a1 hz
  go_loopw [90] (fun i wr => ∃ (k : Nat) (L' : List Int), k ≤ L.length ∧ i = .int .i64 (k : Int) ∧ L'.length = L.length ∧ Hid (FitAt w wr y1.heap.size ye.heap.size g tau (thinTau tau l m) l p p1 p2 q cap c1 c2 L.length qc L')) (fun i _ => L.length - (intOf i).toNat)
  case atStart => exact ⟨0, L, Nat.zero_le _, rfl, rfl, HFA⟩
  case round =>
    obtain ⟨k, L', hk, rfl, hll, HF⟩ := hrel
    have HLE := Lib.hid hll
    by_cases hlt : k < L.length
    · have hkl : (k : Int) < (L.length : Int) := by omega
      obtain rfl := (HG3.out (by omega)).1
      obtain ⟨a0, a1⟩ := HF.out.s
      have hz := cell_lt a0
      have f0 := (HF.out.i k (by omega)).2
      obtain ⟨xv, x0⟩ : ∃ xv : Int, wr.cell? ⟨g, k, none⟩ = some (.int .i64 xv) := ⟨_, (HF.out.i k (by omega)).1⟩
      have hz2 := cell_lt x0
      obtain ⟨u, hu⟩ : ∃ u, IntKind.i64.wrap (xv + 1) = u := ⟨_, rfl⟩
      have HN := Lib.hid (HF.out.step k (by omega) (by omega) u)
      have v1 : IntKind.i64.wrap ((k : Int) + 1) = (k : Int) + 1 := IntWalk.i64_in _ (by have := HLL.out; unfold maxLen at this; omega)
      clear hll
      go_wp2_with fail
      go_roundw
      case rel => exact ⟨k + 1, L'.set k u, by omega, by simp, by rw [List.length_set]; exact HLE.out, HN⟩
      case measure => simp [intOf]; omega
    · obtain rfl : k = L.length := by omega
      obtain ⟨g0, g1⟩ := HF.out.v.r1
      obtain ⟨h0, h1⟩ := HF.out.v.r0
      have hz := cell_lt g0
      have hz2 := cell_lt h0
      clear hll
      go_wp2_with fail
      refine (equal_yes l p1 p c1 cap _ HF.out.v.s1.2 HF.out.v.s0.2 HF.out.v.s0.1).mono ?_
      rintro e z4 ⟨rfl, hb⟩
      have HFF := Lib.hid (HF.out.v.bel.trans (hb.mono HF.out.v.bel.size))
      clear hb g0 g1 h0 h1 hz hz2
      go_wp2
      go_ret
      exact ⟨rfl, HFF.out⟩
end Go.Proofs.Ythkndjkgokojmaa
