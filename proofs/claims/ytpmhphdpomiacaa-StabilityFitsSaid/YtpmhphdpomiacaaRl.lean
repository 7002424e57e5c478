/- Plain facts of the reference's Rest: fractions in lowest terms, the common denominator of the line, the sum of the rests times the phases. -/
import Derived.Test.YtpmhphdpomiacaaStD
namespace Go.Proofs.Ytpmhphdpomiacaa
open Go Go.RowKit
theorem cop_dvd {a b c : Int} (h : Int.gcd a b = 1) (hd : a ∣ b * c) : a ∣ c := by
  have h1 : a.natAbs ∣ b.natAbs * c.natAbs := by rw [← Int.natAbs_mul]; exact Int.natAbs_dvd_natAbs.2 hd
  exact Int.natAbs_dvd_natAbs.1 (Nat.Coprime.dvd_of_dvd_mul_left h h1)
theorem low_cop (n d : Int) (h : 1 ≤ d) : Int.gcd (lowN n d) (lowD n d) = 1 := Int.gcd_ediv_gcd_ediv_gcd (Int.gcd_pos_of_ne_zero_right n (by omega))
theorem low_unique {a C b D : Int} (hC : 1 ≤ C) (hD : 1 ≤ D) (h : a * D = b * C) : lowN a C = lowN b D ∧ lowD a C = lowD b D := by
  have g1 := gcdS_pos a C hC
  have g2 := gcdS_pos b D hD
  have p1 := lowD_pos a C hC
  have p2 := lowD_pos b D hD
  have c1 := low_cop a C hC
  have c2 := low_cop b D hD
  have hx : lowN a C * lowD b D = lowN b D * lowD a C := by
    have hne : gcdS a C * gcdS b D ≠ 0 := Int.mul_ne_zero (by omega) (by omega)
    refine Int.eq_of_mul_eq_mul_left hne ?_
    rw [show gcdS a C * gcdS b D * (lowN a C * lowD b D) = (gcdS a C * lowN a C) * (gcdS b D * lowD b D) by grind, show gcdS a C * gcdS b D * (lowN b D * lowD a C) = (gcdS b D * lowN b D) * (gcdS a C * lowD a C) by grind, gcdS_n, gcdS_d, gcdS_n, gcdS_d, h]
  have d1 : lowD a C ∣ lowD b D := cop_dvd (b := lowN a C) (by rw [Int.gcd_comm]; exact c1) (by rw [hx]; exact Int.dvd_mul_left _ _)
  have d2 : lowD b D ∣ lowD a C := cop_dvd (b := lowN b D) (by rw [Int.gcd_comm]; exact c2) (by rw [← hx]; exact Int.dvd_mul_left _ _)
  have e : lowD a C = lowD b D := Int.le_antisymm (Int.le_of_dvd (by omega) d1) (Int.le_of_dvd (by omega) d2)
  refine ⟨?_, e⟩
  rw [e] at hx
  exact Int.eq_of_mul_eq_mul_right (by omega) hx
theorem swap3 (a b g : Int) : a * (g * b) = b * (g * a) := by grind
theorem lcm_facts {od sd R : Int} (ho : 1 ≤ od) (hs : 1 ≤ sd) (hR : 1 ≤ R) (h1 : od ∣ R) (h2 : sd ∣ R) :
    ∃ q1 q2 t, lowN od sd * sd = od * q1 ∧ lowN od sd * sd = sd * q2 ∧ R = lowN od sd * sd * t ∧ 1 ≤ q1 ∧ 1 ≤ q2 ∧ 1 ≤ t := by
  have g := gcdS_pos od sd hs
  have e1 := gcdS_n od sd
  have e2 := gcdS_d od sd
  have p2 := lowD_pos od sd hs
  have c := low_cop od sd hs
  have p1 : 1 ≤ lowN od sd := by
    rcases Int.lt_or_le (lowN od sd) 1 with h | h
    · have := Int.mul_le_mul_of_nonneg_left (show lowN od sd ≤ 0 by omega) (show 0 ≤ gcdS od sd by omega)
      rw [e1] at this; omega
    · exact h
  obtain ⟨u, hu⟩ := h1
  obtain ⟨v, hv⟩ := h2
  have hx : lowN od sd * u = lowD od sd * v := by
    refine Int.eq_of_mul_eq_mul_left (show gcdS od sd ≠ 0 by omega) ?_
    rw [← Int.mul_assoc, ← Int.mul_assoc, e1, e2, ← hu, ← hv]
  obtain ⟨t, ht⟩ := cop_dvd (a := lowD od sd) (b := lowN od sd) (c := u) (by rw [Int.gcd_comm]; exact c) (by rw [hx]; exact Int.dvd_mul_right _ _)
  have hdd : lowN od sd * sd = od * lowD od sd := by
    have h3 := swap3 (lowN od sd) (lowD od sd) (gcdS od sd)
    rw [e2] at h3
    rw [h3, e1, Int.mul_comm]
  have hRt : R = lowN od sd * sd * t := by rw [hdd, hu, ht, Int.mul_assoc]
  refine ⟨lowD od sd, lowN od sd, t, hdd, Int.mul_comm _ _, hRt, p2, p1, ?_⟩
  rcases Int.lt_or_le t 1 with h | h
  · have := Int.mul_le_mul_of_nonneg_left (show t ≤ 0 by omega) (show 0 ≤ lowN od sd * sd from Int.mul_nonneg (by omega) (by omega))
    rw [← hRt] at this; omega
  · exact h
theorem rest_sum (x : Nat → Int) (d a b c : Int) : ∀ k : Nat, sumF (fun i => (x i * d - a - (i : Int) * b * c) * x i) k = d * sumF (fun i => x i * x i) k - a * sumF x k - b * c * sumF (fun i => (i : Int) * x i) k
  | 0 => by simp [sumF]
  | k + 1 => by
    simp only [sumF]
    rw [rest_sum x d a b c k]
    generalize sumF (fun i => x i * x i) k = Q
    generalize sumF x k = S
    generalize sumF (fun i => (i : Int) * x i) k = M
    generalize x k = y
    generalize (k : Int) = n
    grind
theorem six_all : (List.range 129).all (fun n => decide (6 * squaresS (n : Int) = ((n : Int) - 1) * n * (2 * n - 1)) && decide (2 * placesS (n : Int) = (n : Int) * (n - 1))) = true := by decide +kernel
theorem six_eq {n : Nat} (h : n ≤ 128) : 6 * squaresS (n : Int) = ((n : Int) - 1) * n * (2 * n - 1) ∧ 2 * placesS (n : Int) = (n : Int) * (n - 1) := by
  have := List.all_eq_true.1 six_all n (by simp; omega)
  simpa using this
theorem line_ident (n sq pl S M : Int) (h1 : 6 * sq = (n - 1) * n * (2 * n - 1)) (h2 : 2 * pl = n * (n - 1)) :
    (sq * S - pl * M) * (n * (n * n - 1)) = (S * (n * n - 1) - 3 * (n - 1) * tiltS n S M) * (n * sq - pl * pl) ∧ (n * M - pl * S) * (n * (n * n - 1)) = 6 * tiltS n S M * (n * sq - pl * pl) := by
  have e1 : 12 * (n * sq - pl * pl) = n * n * (n * n - 1) := by
    rw [show 12 * (n * sq - pl * pl) = 2 * n * (6 * sq) - 3 * (2 * pl) * (2 * pl) by grind, h1, h2]; grind
  have e2 : 12 * (sq * S - pl * M) = 2 * ((n - 1) * n * (2 * n - 1)) * S - 6 * (n * (n - 1)) * M := by rw [← h1, ← h2]; grind
  have e3 : 2 * (n * M - pl * S) = 2 * n * M - n * (n - 1) * S := by rw [← h2]; grind
  unfold tiltS
  refine ⟨?_, ?_⟩
  · refine Int.eq_of_mul_eq_mul_left (show (12 : Int) ≠ 0 by decide) ?_
    rw [show 12 * ((sq * S - pl * M) * (n * (n * n - 1))) = 12 * (sq * S - pl * M) * (n * (n * n - 1)) by grind, e2, show 12 * ((S * (n * n - 1) - 3 * (n - 1) * (2 * M - (n - 1) * S)) * (n * sq - pl * pl)) = (S * (n * n - 1) - 3 * (n - 1) * (2 * M - (n - 1) * S)) * (12 * (n * sq - pl * pl)) by grind, e1]
    grind
  · refine Int.eq_of_mul_eq_mul_left (show (12 : Int) ≠ 0 by decide) ?_
    rw [show 12 * ((n * M - pl * S) * (n * (n * n - 1))) = 6 * (2 * (n * M - pl * S)) * (n * (n * n - 1)) by grind, e3, show 12 * (6 * (2 * M - (n - 1) * S) * (n * sq - pl * pl)) = 6 * (2 * M - (n - 1) * S) * (12 * (n * sq - pl * pl)) by grind, e1]
    grind
/-- what the reference's Rest works with -/
structure RestPl (l : List Int) (dd q1 q2 : Int) : Prop where
  d1 : dd = lowD (offN l) (detS l.length) * q1
  d2 : dd = lowD (sloN l) (detS l.length) * q2
  pos : 1 ≤ dd ∧ dd ≤ 200000
  p1 : 1 ≤ q1
  p2 : 1 ≤ q2
  nn : 0 ≤ sumF (fun i => (atL l i * dd - lowN (offN l) (detS l.length) * q1 - (i : Int) * lowN (sloN l) (detS l.length) * q2) * atL l i) l.length
  le : sumF (fun i => (atL l i * dd - lowN (offN l) (detS l.length) * q1 - (i : Int) * lowN (sloN l) (detS l.length) * q2) * atL l i) l.length ≤ 5400000000000000000
  eq : sumF (fun i => (atL l i * dd - lowN (offN l) (detS l.length) * q1 - (i : Int) * lowN (sloN l) (detS l.length) * q2) * atL l i) l.length * restD l.length = restV l * dd
theorem restPl {l : List Int} (hp : phasesOk l = true) (h2 : 2 ≤ l.length) (h48 : l.length ≤ 48) :
    ∃ q1 q2, RestPl l (lowN (lowD (offN l) (detS l.length)) (lowD (sloN l) (detS l.length)) * lowD (sloN l) (detS l.length)) q1 q2 := by
  have hR := (restNums hp h2 h48).d
  have hb := restNums hp h2 h48
  have hD := (lineNums l.length h2 (by omega)).det
  obtain ⟨h6, hpl⟩ := six_eq (n := l.length) (by omega)
  obtain ⟨i1, i2⟩ := line_ident (l.length : Int) (squaresS l.length) (placesS l.length) (totalL l) (momL l) h6 hpl
  have i1' : offN l * restD l.length = (totalL l * ((l.length : Int) * l.length - 1) - 3 * ((l.length : Int) - 1) * tiltS l.length (totalL l) (momL l)) * detS l.length := i1
  have i2' : sloN l * restD l.length = 6 * tiltS l.length (totalL l) (momL l) * detS l.length := i2
  obtain ⟨a1, a2⟩ := low_unique hD.1 hR.1 i1'
  obtain ⟨b1, b2⟩ := low_unique hD.1 hR.1 i2'
  obtain ⟨N1, hN1⟩ : ∃ N1, N1 = totalL l * ((l.length : Int) * l.length - 1) - 3 * ((l.length : Int) - 1) * tiltS l.length (totalL l) (momL l) := ⟨_, rfl⟩
  obtain ⟨N2, hN2⟩ : ∃ N2, N2 = 6 * tiltS l.length (totalL l) (momL l) := ⟨_, rfl⟩
  rw [← hN1] at a1 a2
  rw [← hN2] at b1 b2
  have o1 := lowD_pos (offN l) (detS l.length) hD.1
  have s1 := lowD_pos (sloN l) (detS l.length) hD.1
  have r1 := gcdS_d N1 (restD l.length)
  have r2 := gcdS_d N2 (restD l.length)
  have m1 := gcdS_n N1 (restD l.length)
  have m2 := gcdS_n N2 (restD l.length)
  rw [← a2] at r1
  rw [← b2] at r2
  rw [← a1] at m1
  rw [← b1] at m2
  obtain ⟨q1, q2, t, e1, e2, e3, p1, p2, pt⟩ := lcm_facts o1 s1 hR.1 ⟨gcdS N1 (restD l.length), by rw [Int.mul_comm]; exact r1.symm⟩ ⟨gcdS N2 (restD l.length), by rw [Int.mul_comm]; exact r2.symm⟩
  have hV : restV l = sqL l * restD l.length - totalL l * N1 - momL l * N2 := by
    rw [hN1, hN2]
    show ((l.length : Int) * l.length - 1) * ((l.length : Int) * sqL l - totalL l * totalL l) - 3 * tiltS l.length (totalL l) (momL l) * tiltS l.length (totalL l) (momL l) = _
    unfold restD tiltS
    generalize sqL l = Q
    generalize totalL l = S
    generalize momL l = M
    generalize (l.length : Int) = n
    grind
  have hV0 : 0 ≤ restV l := left_nonneg (atL l) l.length h2
  have hV1 : restV l ≤ 5400000000000000000 := by
    have ha := hb.a
    have ht := hb.t
    have e : restV l = ((l.length : Int) * l.length - 1) * ((l.length : Int) * sqL l - totalL l * totalL l) - 3 * (2 * momL l - ((l.length : Int) - 1) * totalL l) * (2 * momL l - ((l.length : Int) - 1) * totalL l) := rfl
    omega
  generalize hdd : lowN (lowD (offN l) (detS l.length)) (lowD (sloN l) (detS l.length)) * lowD (sloN l) (detS l.length) = dd at *
  have hd1 : 1 ≤ dd := by rw [e1]; have := Int.mul_pos (show 0 < lowD (offN l) (detS l.length) by omega) (show 0 < q1 by omega); omega
  have hd2 : dd ≤ restD l.length := by rw [e3]; have := Int.mul_le_mul_of_nonneg_left pt (show 0 ≤ dd by omega); rw [Int.mul_one] at this; exact this
  obtain ⟨T, hT⟩ : ∃ T, T = sumF (fun i => (atL l i * dd - lowN (offN l) (detS l.length) * q1 - (i : Int) * lowN (sloN l) (detS l.length) * q2) * atL l i) l.length := ⟨_, rfl⟩
  have hTT : T = dd * sqL l - lowN (offN l) (detS l.length) * q1 * totalL l - lowN (sloN l) (detS l.length) * q2 * momL l := by rw [hT]; exact rest_sum (atL l) dd _ _ _ l.length
  have hTR : T * restD l.length = restV l * dd := by
    rw [hTT, hV]
    have k1 : lowN (offN l) (detS l.length) * restD l.length = lowD (offN l) (detS l.length) * N1 := by
      have h3 := swap3 (lowN (offN l) (detS l.length)) (lowD (offN l) (detS l.length)) (gcdS N1 (restD l.length))
      rw [r1, m1] at h3
      exact h3
    have k2 : lowN (sloN l) (detS l.length) * restD l.length = lowD (sloN l) (detS l.length) * N2 := by
      have h3 := swap3 (lowN (sloN l) (detS l.length)) (lowD (sloN l) (detS l.length)) (gcdS N2 (restD l.length))
      rw [r2, m2] at h3
      exact h3
    generalize restD l.length = R at *
    generalize lowN (offN l) (detS l.length) = on at *
    generalize lowD (offN l) (detS l.length) = od at *
    generalize lowN (sloN l) (detS l.length) = sn at *
    generalize lowD (sloN l) (detS l.length) = sd at *
    generalize sqL l = Q at *
    generalize totalL l = S at *
    generalize momL l = M at *
    rw [show (dd * Q - on * q1 * S - sn * q2 * M) * R = dd * Q * R - (on * R) * q1 * S - (sn * R) * q2 * M by grind, k1, k2, show (Q * R - S * N1 - M * N2) * dd = dd * Q * R - dd * (N1 * S) - dd * (N2 * M) by grind]
    rw [show od * N1 * q1 * S = od * q1 * (N1 * S) by grind, show sd * N2 * q2 * M = sd * q2 * (N2 * M) by grind, ← e1, ← e2]
  have hTt : T * t = restV l := by
    refine Int.eq_of_mul_eq_mul_right (show dd ≠ 0 by omega) ?_
    rw [← hTR, e3]; grind
  have hT0 : 0 ≤ T := by
    rcases Int.lt_or_le T 0 with h | h
    · have := Int.mul_pos (show 0 < -T by omega) (show 0 < t by omega)
      rw [Int.neg_mul] at this; omega
    · exact h
  have hT1 : T ≤ restV l := by
    have := Int.mul_le_mul_of_nonneg_left pt hT0
    rw [Int.mul_one, hTt] at this; exact this
  exact ⟨q1, q2, e1, e2, ⟨hd1, by omega⟩, p1, p2, by rw [← hT]; exact hT0, by rw [← hT]; omega, by rw [← hT]; exact hTR⟩
/-! wrapped sums -/
theorem wrap_add_l (x y : Int) : IntKind.i64.wrap (IntKind.i64.wrap x + y) = IntKind.i64.wrap (x + y) := by
  rw [IntKind.wrap_i64, IntKind.wrap_i64, IntKind.wrap_i64]; omega
theorem wrap_add_r (x y : Int) : IntKind.i64.wrap (x + IntKind.i64.wrap y) = IntKind.i64.wrap (x + y) := by
  rw [IntKind.wrap_i64, IntKind.wrap_i64, IntKind.wrap_i64]; omega
theorem wrap_sub_l (x y : Int) : IntKind.i64.wrap (IntKind.i64.wrap x - y) = IntKind.i64.wrap (x - y) := by
  rw [IntKind.wrap_i64, IntKind.wrap_i64, IntKind.wrap_i64]; omega
theorem wrap_sub_r (x y : Int) : IntKind.i64.wrap (x - IntKind.i64.wrap y) = IntKind.i64.wrap (x - y) := by
  rw [IntKind.wrap_i64, IntKind.wrap_i64, IntKind.wrap_i64]; omega
theorem wrap_times (x y : Int) : IntKind.i64.wrap (IntKind.i64.wrap x * y) = IntKind.i64.wrap (x * y) := by
  rw [IntKind.wrap_i64, IntKind.wrap_i64, IntKind.wrap_i64, Int.emod_def (x + 9223372036854775808)]
  generalize (x + 9223372036854775808) / 18446744073709551616 = t
  rw [show (x + 9223372036854775808 - 18446744073709551616 * t - 9223372036854775808) * y + 9223372036854775808 = x * y + 9223372036854775808 + 18446744073709551616 * (-(t * y)) by grind, Int.add_mul_emod_self_left]
end Go.Proofs.Ytpmhphdpomiacaa
