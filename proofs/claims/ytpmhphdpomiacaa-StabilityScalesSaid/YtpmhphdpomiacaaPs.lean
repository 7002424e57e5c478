/- Plain facts of StabilityScales: what the law asks of its answers. -/
import Derived.Test.YtpmhphdpomiacaaLi
namespace Go.Proofs.Ytpmhphdpomiacaa
open Go Go.RowKit Go.Shelf
/-- the phases, of which the first i are multiplied -/
def mixL (L : List Int) (k : Int) (i : Nat) : List Int := (List.range L.length).map fun (j : Nat) => if j < i then atL L j * k else atL L j
theorem mixL_len (L : List Int) (k : Int) (i : Nat) : (mixL L k i).length = L.length := by simp [mixL]
theorem mixL_at (L : List Int) (k : Int) (i j : Nat) (h : j < L.length) : atL (mixL L k i) j = if j < i then atL L j * k else atL L j := by simp [atL, mixL, h]
theorem mixL_get (L : List Int) (k : Int) (i j : Nat) (h : j < (mixL L k i).length) : (mixL L k i)[j] = if j < i then atL L j * k else atL L j := by simp [mixL]
theorem mixL_zero (L : List Int) (k : Int) : mixL L k 0 = L := by
  refine List.ext_getElem (mixL_len L k 0) fun j h1 h2 => ?_
  rw [mixL_get, if_neg (by omega), atL_get L j h2]
theorem mixL_set (L : List Int) (k : Int) (i : Nat) : (mixL L k i).set i (atL L i * k) = mixL L k (i + 1) := by
  refine List.ext_getElem (by simp [mixL_len]) fun j h1 h2 => ?_
  rw [List.getElem_set]
  by_cases e : i = j
  · subst e; rw [if_pos rfl, mixL_get, if_pos (by omega)]
  · rw [if_neg e, mixL_get, mixL_get]
    by_cases hj : j < i
    · rw [if_pos hj, if_pos (by omega)]
    · rw [if_neg hj, if_neg (by omega)]
theorem mixL_times (L : List Int) (k : Int) : Times L (mixL L k L.length) k := ⟨mixL_len _ _ _, fun i hi => by rw [mixL_at _ _ _ _ hi, if_pos hi]⟩
theorem rev_turned (L : List Int) : Turned L L.reverse := by
  refine ⟨List.length_reverse, fun i hi => ?_⟩
  have h1 : L.length - 1 - i < L.length := by omega
  have h2 : i < L.reverse.length := by simpa using hi
  rw [← atL_get L.reverse i h2, ← atL_get L (L.length - 1 - i) h1, List.getElem_reverse]
theorem turned_allan_err {tau m : Int} {l l' : List Int} (h : l'.length = l.length) (he : stepErr tau l m = stepErr tau l' m) : (allanE tau l m).e = (allanE tau l' m).e := by
  rw [allanE_eq, allanE_eq]
  unfold errF varF
  rw [← he, h]
  split
  · split <;> rfl
  · rfl
theorem mul_k_bd {x k : Int} (hx : -32768 ≤ x ∧ x ≤ 32767) (hk : -25 ≤ k ∧ k ≤ 25) : -1000000 ≤ x * k ∧ x * k ≤ 1000000 := by
  have h1 : x * k ≤ 32768 * 25 ∧ -(32768 * 25) ≤ x * k := by
    have hx' : x.natAbs ≤ 32768 := by omega
    have hk' : k.natAbs ≤ 25 := by omega
    have h := Nat.mul_le_mul hx' hk'
    rw [← Int.natAbs_mul] at h
    omega
  omega
theorem phases_small {L : List Int} (h : ∀ i, -32768 ≤ atL L i ∧ atL L i ≤ 32767) : phasesOk L = true := List.all_eq_true.2 fun x hx => by
  obtain ⟨i, hi, rfl⟩ := List.getElem_of_mem hx
  have := h i
  rw [← atL_get L i hi] at this
  simp only [Bool.and_eq_true, decide_eq_true_eq]
  omega
theorem phases_mix {L : List Int} {k : Int} (h : ∀ i, -32768 ≤ atL L i ∧ atL L i ≤ 32767) (hk : -25 ≤ k ∧ k ≤ 25) (n : Nat) : phasesOk (mixL L k n) = true := range_ok fun i _ => by
  have h1 := h i
  have h2 := mul_k_bd h1 hk
  split <;> omega
theorem phases_rev {L : List Int} (h : phasesOk L = true) : phasesOk L.reverse = true := List.all_eq_true.2 fun x hx => List.all_eq_true.1 h x (List.mem_reverse.1 hx)
/-- the answers of the law, named -/
theorem scales_plain {tau m k : Int} {L L2 L3 : List Int} (h0 : stepErr tau L m = 0) (h2 : stepErr tau L2 m = 0) (h3 : stepErr tau L3 m = 0) (hT : Times L L2 k) (hR : Turned L L3) :
    ∃ n0 d0 e0 n1 d1 e1 n2 d2 e2 n3 d3 e3 p0 q0 p1 q1 p2 q2 p3 q3 r0 s0 a b c f g h : Int,
      allE tau L m = ⟨⟨n0, d0, e0⟩, ⟨n1, d1, e1⟩, ⟨n2, d2, e2⟩, ⟨n3, d3, e3⟩⟩ ∧
      allE tau L2 m = ⟨⟨p0, q0, e0⟩, ⟨p1, q1, e1⟩, ⟨p2, q2, e2⟩, ⟨p3, q3, e3⟩⟩ ∧
      allE tau L3 m = ⟨⟨r0, s0, e0⟩, ⟨n1, d1, e1⟩, ⟨n2, d2, e2⟩, ⟨n3, d3, e3⟩⟩ ∧
      allE tau L 1 = ⟨⟨a, b, c⟩, ⟨a, b, c⟩, ⟨a, b, c⟩, ⟨f, g, h⟩⟩ ∧
      (e0 = 0 → p0 * d0 = n0 * k * k * q0) ∧ (e1 = 0 → p1 * d1 = n1 * k * k * q1) ∧ (e2 = 0 → p2 * d2 = n2 * k * k * q2) ∧ (e3 = 0 → p3 * d3 = n3 * k * k * q3) := by
  have t0 := times_allan hT (h0.trans h2.symm)
  have t1 := times_overlapping hT (h0.trans h2.symm)
  have t2 := times_modified hT (h0.trans h2.symm)
  have t3 := times_hadamard hT (h0.trans h2.symm)
  have u0 := turned_allan_err hR.len (h0.trans h3.symm)
  have u1 := turned_overlapping hR (h0.trans h3.symm)
  have u2 := turned_modified hR (h0.trans h3.symm)
  have u3 := turned_hadamard hR (h0.trans h3.symm)
  refine ⟨(allanE tau L m).n, (allanE tau L m).d, (allanE tau L m).e, (overlappingE tau L m).n, (overlappingE tau L m).d, (overlappingE tau L m).e, (modifiedE tau L m).n, (modifiedE tau L m).d, (modifiedE tau L m).e, (hadamardE tau L m).n, (hadamardE tau L m).d, (hadamardE tau L m).e,
    (allanE tau L2 m).n, (allanE tau L2 m).d, (overlappingE tau L2 m).n, (overlappingE tau L2 m).d, (modifiedE tau L2 m).n, (modifiedE tau L2 m).d, (hadamardE tau L2 m).n, (hadamardE tau L2 m).d, (allanE tau L3 m).n, (allanE tau L3 m).d,
    (allanE tau L 1).n, (allanE tau L 1).d, (allanE tau L 1).e, (hadamardE tau L 1).n, (hadamardE tau L 1).d, (hadamardE tau L 1).e, rfl, ?_, ?_, ?_, t0.eq, t1.eq, t2.eq, t3.eq⟩
  · rw [t0.err, t1.err, t2.err, t3.err]; rfl
  · rw [u0, u1, u2, u3]; rfl
  · unfold allE; rw [← one_modified, ← one_overlapping]
theorem scales_time {tau m : Int} {L : List Int} : ∃ x y, timeE tau L m = ⟨x, y, (modifiedE tau L m).e⟩ ∧ ((modifiedE tau L m).e = 0 → 3 * x * (modifiedE tau L m).d = (modifiedE tau L m).n * (m * m * tau * tau) * y) := by
  have h := time_mod tau L m
  exact ⟨(timeE tau L m).n, (timeE tau L m).d, by rw [← h.err], fun he => h.eq (h.err.trans he)⟩
/-! wrapped products -/
theorem wrap_mul_l (x y : Int) : IntKind.i64.wrap (IntKind.i64.wrap x * y) = IntKind.i64.wrap (x * y) := by
  rw [IntKind.wrap_i64, IntKind.wrap_i64, IntKind.wrap_i64, Int.emod_def (x + 9223372036854775808)]
  generalize (x + 9223372036854775808) / 18446744073709551616 = t
  rw [show (x + 9223372036854775808 - 18446744073709551616 * t - 9223372036854775808) * y + 9223372036854775808 = x * y + 9223372036854775808 + 18446744073709551616 * (-(t * y)) by grind, Int.add_mul_emod_self_left]
theorem wrap3 (n k q : Int) : IntKind.i64.wrap (IntKind.i64.wrap (IntKind.i64.wrap (n * k) * k) * q) = IntKind.i64.wrap (n * k * k * q) := by
  rw [wrap_mul_l, Int.mul_assoc (IntKind.i64.wrap _) k q, wrap_mul_l, Int.mul_assoc (n * k) k q]
theorem wrap5 (n m t y : Int) : IntKind.i64.wrap (IntKind.i64.wrap (IntKind.i64.wrap (IntKind.i64.wrap (IntKind.i64.wrap (n * m) * m) * t) * t) * y) = IntKind.i64.wrap (n * (m * m * t * t) * y) := by
  rw [wrap_mul_l, Int.mul_assoc (IntKind.i64.wrap _) t y, wrap_mul_l, Int.mul_assoc (IntKind.i64.wrap _) t (t * y), wrap_mul_l, Int.mul_assoc (IntKind.i64.wrap _) m _, wrap_mul_l]
  congr 1
  grind
end Go.Proofs.Ytpmhphdpomiacaa
