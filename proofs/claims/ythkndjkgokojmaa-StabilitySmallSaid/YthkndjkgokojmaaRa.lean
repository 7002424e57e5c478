/- Contracts of the reference of layer 3: numbers, Check, Second, mean. -/
import Derived.Test.YthkndjkgokojmaaStS
import Derived.Test.YthkndjkgokojmaaTri
namespace Go.Proofs.Ythkndjkgokojmaa
open Go Go.RowKit Go.Shelf
theorem rin_any (n lo hi : Int) (w : World) :
    Calls Try.prog 58 #[.int .i64 n, .int .i64 lo, .int .i64 hi] w fun e w' => e = .returned (.bool (decide (lo ≤ n) && decide (n ≤ hi))) ∧ w = w' := by
  by_cases h : lo ≤ n
  · have e : decide (n ≤ hi) = (decide (lo ≤ n) && decide (n ≤ hi)) := by simp [h]
    have E := Lib.hid e
    clear e
    go_enter Try.func58, Try.ntmps58
    go_wp2
    go_ret
    exact ⟨ret_bool E.out, rfl⟩
  · have e : false = (decide (lo ≤ n) && decide (n ≤ hi)) := by simp [h]
    have E := Lib.hid e
    clear e
    go_enter Try.func58, Try.ntmps58
    go_wp2
    go_ret
    exact ⟨ret_bool E.out, rfl⟩
theorem rin_yes (n lo hi : Int) (w : World) (h : lo ≤ n ∧ n ≤ hi) :
    Calls Try.prog 58 #[.int .i64 n, .int .i64 lo, .int .i64 hi] w fun e w' => e = .returned (.bool true) ∧ w = w' :=
  (rin_any n lo hi w).mono fun _ _ ⟨a, b⟩ => ⟨by rw [a]; simp [h], b⟩
theorem rin_no (n lo hi : Int) (w : World) (h : ¬ (lo ≤ n ∧ n ≤ hi)) :
    Calls Try.prog 58 #[.int .i64 n, .int .i64 lo, .int .i64 hi] w fun e w' => e = .returned (.bool false) ∧ w = w' :=
  (rin_any n lo hi w).mono fun _ _ ⟨a, b⟩ => ⟨by rw [a]; congr 2; simpa using h, b⟩
theorem rgcd_aux : ∀ (k : Nat) (a b : Int) (w : World), b.toNat ≤ k → (0 ≤ a ∧ a ≤ 9223372036854775807) → (0 ≤ b ∧ b ≤ 9223372036854775807) →
    Calls Try.prog 63 #[.int .i64 a, .int .i64 b] w fun e w' => e = .returned (.int .i64 (gcdS a b)) ∧ w = w' := by
  intro k
  induction k with
  | zero =>
    intro a b w hk ha hb
    obtain rfl : b = 0 := by omega
    have HR := Lib.hid (show a = gcdS a 0 by unfold gcdS; rw [Int.gcd_zero_right]; omega)
    clear hk
    go_enter Try.func63, Try.ntmps63
    go_wp2
    go_ret
    exact ⟨ret_i64 HR.out, rfl⟩
  | succ k ih =>
    intro a b w hk ha hb
    by_cases h0 : b = 0
    · subst h0
      have HR := Lib.hid (show a = gcdS a 0 by unfold gcdS; rw [Int.gcd_zero_right]; omega)
      clear hk ih
      go_enter Try.func63, Try.ntmps63
      go_wp2
      go_ret
      exact ⟨ret_i64 HR.out, rfl⟩
    · have hb0 : (b == 0) = false := by simpa using h0
      have hlt := Int.emod_lt_of_pos a (show 0 < b by omega)
      have hge := Int.emod_nonneg a h0
      have HI := Lib.hid (ih b (a % b) w (by omega) hb (by omega))
      have HG := Lib.hid (show gcdS b (a % b) = gcdS a b by unfold gcdS; rw [← gcd_step a b, Int.tmod_eq_emod_of_nonneg ha.1])
      have wm : IntKind.i64.wrap (a % b) = a % b := IntWalk.i64_in _ (by omega)
      clear hk ih hlt hge
      go_enter Try.func63, Try.ntmps63
      go_wp2_with fail
      refine HI.out.mono ?_
      rintro e w' ⟨rfl, rfl⟩
      go_wp2
      go_ret
      exact ⟨ret_i64 HG.out, rfl⟩
theorem rgcd_any (a b : Int) (w : World) (ha : 0 ≤ a ∧ a ≤ 9223372036854775807) (hb : 0 ≤ b ∧ b ≤ 9223372036854775807) :
    Calls Try.prog 63 #[.int .i64 a, .int .i64 b] w fun e w' => e = .returned (.int .i64 (gcdS a b)) ∧ w = w' := rgcd_aux b.toNat a b w (Nat.le_refl _) ha hb
set_option maxHeartbeats 1000000 in
theorem rfrac_any (n d : Int) (w : World) (hn : -9223372036854775807 ≤ n ∧ n ≤ 9223372036854775807) (hd : 1 ≤ d ∧ d ≤ 9223372036854775807) :
    Calls Try.prog 60 #[.int .i64 n, .int .i64 d] w fun e w' => e = .returned (.agg #[.int .i64 (lowN n d), .int .i64 (lowD n d)]) ∧ Below w.heap.size w w' := by
  obtain ⟨hg, h1, h2⟩ := low_bd n d hd.1
  have H1 := Lib.hid h1
  have H2 := Lib.hid h2
  have hne : (gcdS n d == 0) = false := by simp; omega
  have hnz : ¬ gcdS n d = 0 := by omega
  have a0 := below_alloc (Below.refl w.heap.size w) (.cells #[.int .i64 0, .int .i64 0] 24)
  have A0 := Lib.hid a0
  have wn : IntKind.i64.wrap (-n) = -n := IntWalk.i64_in _ (by omega)
  have HGC := Lib.hid (show ∀ x, max n (-n) = x → gcdS x d = gcdS n d by
    rintro x rfl
    unfold gcdS
    by_cases h : 0 ≤ n
    · rw [show max n (-n) = n by omega]
    · rw [show max n (-n) = -n by omega, Int.neg_gcd])
  have q1 := tdiv_bd n (gcdS n d) hg.1 hn.1 hn.2
  have q2 := tdiv_bd d (gcdS n d) hg.1 (by omega) hd.2
  have u1 : IntKind.i64.wrap (n.tdiv (gcdS n d)) = lowN n d := by rw [IntWalk.i64_in _ (by omega)]; exact H1.out
  have u2 : IntKind.i64.wrap (d.tdiv (gcdS n d)) = lowD n d := by rw [IntWalk.i64_in _ (by omega)]; exact H2.out
  have hmc : (n < -n ∧ max n (-n) = -n) ∨ (¬ (n < -n) ∧ max n (-n) = n) := by omega
  have HMB := Lib.hid (show 0 ≤ max n (-n) ∧ max n (-n) ≤ 9223372036854775807 by omega)
  clear h1 h2 a0 q1 q2
  rcases hmc with ⟨hmc, hme⟩ | ⟨hmc, hme⟩
  all_goals
    rw [hme] at HMB
    have HME := Lib.hid hme
    clear hme
    go_enter Try.func60, Try.ntmps60
    go_wp2_with fail
    refine (rgcd_any _ d _ HMB.out (by omega)).mono ?_
    rintro e w1 ⟨rfl, hw1⟩
    rw [HGC.out _ HME.out]
    have x0 : w1.cell? ⟨w.heap.size, 0, none⟩ = some (.int .i64 0) := by rw [← hw1]; simp
    have x1 : w1.cell? ⟨w.heap.size, 1, none⟩ = some (.int .i64 0) := by rw [← hw1]; simp
    have f0 : w1.frozen? ⟨w.heap.size, 0, none⟩ = false := by rw [← hw1]; simp
    have f1 : w1.frozen? ⟨w.heap.size, 1, none⟩ = false := by rw [← hw1]; simp
    have HB : Hid (Below w.heap.size w w1) := Lib.hid (by rw [← hw1]; exact A0.out)
    have hz := cell_lt x0
    clear hw1
    go_wp2
    have HF := Lib.hid (fun nq => ((below_drewN HB.out nq).setCell (p := ⟨w.heap.size, 0, none⟩) (Nat.le_refl _) (.int .i64 (lowN n d))).setCell (p := ⟨w.heap.size, 1, none⟩) (Nat.le_refl _) (.int .i64 (lowD n d)))
    refine (wpIn_wide (n := 9)).1 ?_
    refine wpIn_region_pre_lit 7 1 rfl (by kernel_rfl) (by kernel_rfl) (by kernel_rfl) (by kernel_rfl) rfl ?_
    simp only [List.take_succ_cons, List.take_zero]
    repeat (refine wpQuietIn_step (by first | exact fun _ _ _ _ => trivial | quiet_asked_in) (fun KQ hKQ => ?_); go_simp; first | (refine hKQ _ ?_; clear hKQ KQ) | (apply Exists.intro; refine ⟨fun _ => ?_, hKQ _ ?_⟩; (fail); clear hKQ KQ))
    refine wpQuietIn_nil ?_
    intro _ hwq1
    obtain ⟨nq, hwq2⟩ := hwq1
    subst hwq2
    simp only [List.replicate_succ, List.replicate_zero, List.cons_append, List.nil_append]
    have c0 := two_c0 (w := w1.drewN nq) (.int .i64 (lowN n d)) x0
    have c1 := two_c1 (w := w1.drewN nq) (.int .i64 (lowN n d)) (.int .i64 (lowD n d)) x1
    refine wpAnyIn_ready (rs := [7]) (by kernel_rfl) (by simp) (AllReadyIn.cons rfl (fun K' hKK => ?_) AllReadyIn.nil)
    go_simp
    refine hKK _ _ ?_
    clear hKK
    refine wpAnyIn_done (by kernel_rfl) ?_ _
    go_wp2
    exact bodyPost_ret (v := .agg #[.int .i64 (lowN n d), .int .i64 (lowD n d)]) (by simp [results, Try.results60, go_sem, c0, c1]) rfl ⟨rfl, HF.out nq⟩
set_option maxRecDepth 100000 in
set_option maxHeartbeats 1000000 in
theorem rcheck_any (tau : Int) (l : List Int) (p : Option Addr) (cap : Nat) (w : World) (hs : SerIn w l p) :
    Calls Try.prog 27 #[.agg #[.int .i64 tau, .slice p l.length cap]] w fun e w' => e = .returned (.int .i64 (checkSt tau l)) ∧ Below w.heap.size w w' := by
  have hl := hs.1
  unfold maxLen at hl
  have a0 := below_alloc (Below.refl w.heap.size w) (.cells #[.int .i64 tau, .slice p l.length cap] 63)
  have x0 : (w.alloc (.cells #[.int .i64 tau, .slice p l.length cap] 63)).cell? ⟨w.heap.size, 0, none⟩ = some (.int .i64 tau) := by simp
  have x1 : (w.alloc (.cells #[.int .i64 tau, .slice p l.length cap] 63)).cell? ⟨w.heap.size, 1, none⟩ = some (.slice p l.length cap) := by simp
  have HS := Lib.hid (hs.below a0)
  have A0 := Lib.hid a0
  clear hs a0
  by_cases h128 : 128 < l.length
  · have HF := Lib.hid (show 2 = checkSt tau l by unfold checkSt; rw [if_pos h128])
    have h128i : (128 : Int) < (l.length : Int) := by omega
    go_enter Try.func27, Try.ntmps27
    go_wp2
    go_ret
    exact ⟨ret_i64 HF.out, A0.out⟩
  · have hc : checkSt tau l = if (1 ≤ tau ∧ tau ≤ 1000) ∧ phasesOk l = true then 0 else 6 := by unfold checkSt; rw [if_neg h128]
    have HC := Lib.hid hc
    have h128i : (l.length : Int) ≤ 128 := by omega
    clear hc
    by_cases ht : 1 ≤ tau ∧ tau ≤ 1000
    · go_enter Try.func27, Try.ntmps27
      go_wp2_with (go_at_call 58; refine (rin_yes _ _ _ _ ht).mono ?_; rintro e w' ⟨rfl, rfl⟩)
      generalize w.alloc (.cells #[.int .i64 tau, .slice p l.length cap] 63) = W1 at *
      go_loop [3] (fun i => ∃ k : Nat, k ≤ l.length ∧ i = .int .i64 k ∧ ∀ j (h : j < l.length), j < k → -1000000 ≤ l[j] ∧ l[j] ≤ 1000000) (fun i => l.length - (intOf i).toNat)
      case atStart => exact ⟨0, Nat.zero_le _, rfl, fun j _ h => by omega⟩
      case round =>
        obtain ⟨k, hk, rfl, hall⟩ := hrel
        have HALL := Lib.hid hall
        clear hall
        by_cases hlt : k < l.length
        · obtain ⟨b, o, rfl, hcc⟩ := HS.out.2.resolve_left (by omega)
          have y0 := hcc k hlt
          have hkl : (k : Int) < (l.length : Int) := by omega
          have hk0 : (0 : Int) ≤ (k : Int) := by omega
          have wk : IntKind.i64.wrap ((k : Int) + 1) = (k : Int) + 1 := IntWalk.i64_in _ (by omega)
          have HNO := Lib.hid (phasesOk_no k hlt)
          have HYES := Lib.hid (fun (h : -1000000 ≤ l[k] ∧ l[k] ≤ 1000000) (j : Nat) (hj : j < l.length) (hjk : j < k + 1) => show -1000000 ≤ l[j] ∧ l[j] ≤ 1000000 by
            by_cases e : j = k
            · subst e; exact h
            · exact HALL.out j hj (by omega))
          clear hcc
          generalize l[k] = v at *
          by_cases hv : -1000000 ≤ v ∧ v ≤ 1000000
          · go_wp2_with (go_at_call 58; refine (rin_yes _ _ _ _ hv).mono ?_; rintro e w' ⟨rfl, rfl⟩)
            go_round
            case rel => exact ⟨k + 1, by omega, by go_num, HYES.out hv⟩
            case measure => simp [intOf]; omega
          · have HF := Lib.hid (show 6 = checkSt tau l by rw [HC.out, HNO.out hv, if_neg (by simp)])
            go_wp2_with (go_at_call 58; refine (rin_no _ _ _ _ hv).mono ?_; rintro e w' ⟨rfl, rfl⟩)
            go_ret
            exact ⟨ret_i64 HF.out, A0.out⟩
        · obtain rfl : k = l.length := by omega
          have HF := Lib.hid (show 0 = checkSt tau l by
            have hall : phasesOk l = true := List.all_eq_true.2 fun x hx => by
              obtain ⟨j, hj, rfl⟩ := List.getElem_of_mem hx
              simpa using HALL.out j hj hj
            rw [HC.out, if_pos ⟨ht, hall⟩])
          go_wp2
          go_ret
          exact ⟨ret_i64 HF.out, A0.out⟩
    · have HF := Lib.hid (show 6 = checkSt tau l by rw [HC.out, if_neg (fun h => ht h.1)])
      go_enter Try.func27, Try.ntmps27
      go_wp2_with (go_at_call 58; refine (rin_no _ _ _ _ ht).mono ?_; rintro e w' ⟨rfl, rfl⟩)
      go_ret
      exact ⟨ret_i64 HF.out, A0.out⟩
theorem rchecked_any (tau : Int) (l : List Int) (p : Option Addr) (cap : Nat) (m : Int) (w : World) (hs : SerIn w l p) :
    Calls Try.prog 67 #[.agg #[.int .i64 tau, .slice p l.length cap], .int .i64 m] w fun e w' => e = .returned (.int .i64 (stepErr tau l m)) ∧ Below w.heap.size w w' := by
  have a0 := below_alloc (Below.refl w.heap.size w) (.cells #[.int .i64 tau, .slice p l.length cap] 63)
  have HC := Lib.hid (rcheck_any tau l p cap _ (hs.below a0))
  have A0 := Lib.hid a0
  have hfe : stepErr tau l m = if checkSt tau l = 0 then (if 1 ≤ m ∧ m ≤ 32 then 0 else 1) else checkSt tau l := rfl
  clear hs a0
  by_cases h0 : checkSt tau l = 0
  · rw [if_pos h0] at hfe
    by_cases h1 : 1 ≤ m ∧ m ≤ 32
    · rw [if_pos h1] at hfe
      have HE := Lib.hid hfe
      have H0 := Lib.hid h0
      clear hfe h0
      go_enter Try.func67, Try.ntmps67
      go_wp2_with fail
      refine HC.out.mono ?_
      rintro e w1 ⟨rfl, hb⟩
      rw [H0.out]
      have HB := Lib.hid (A0.out.trans (hb.mono A0.out.size))
      clear hb
      go_wp2_with (go_at_call 58; refine (rin_yes _ _ _ _ h1).mono ?_; rintro e w2 ⟨rfl, rfl⟩)
      go_ret
      exact ⟨ret_i64 HE.out.symm, HB.out⟩
    · rw [if_neg h1] at hfe
      have HE := Lib.hid hfe
      have H0 := Lib.hid h0
      clear hfe h0
      go_enter Try.func67, Try.ntmps67
      go_wp2_with fail
      refine HC.out.mono ?_
      rintro e w1 ⟨rfl, hb⟩
      rw [H0.out]
      have HB := Lib.hid (A0.out.trans (hb.mono A0.out.size))
      clear hb
      go_wp2_with (go_at_call 58; refine (rin_no _ _ _ _ h1).mono ?_; rintro e w2 ⟨rfl, rfl⟩)
      go_ret
      exact ⟨ret_i64 HE.out.symm, HB.out⟩
  · rw [if_neg h0] at hfe
    have HE := Lib.hid hfe
    have h0d : decide (checkSt tau l = 0) = false := by simpa using h0
    have h0b : (checkSt tau l == 0) = false := by simpa using h0
    clear hfe
    go_enter Try.func67, Try.ntmps67
    go_wp2_with fail
    refine HC.out.mono ?_
    rintro e w1 ⟨rfl, hb⟩
    have HB := Lib.hid (A0.out.trans (hb.mono A0.out.size))
    clear hb
    go_wp2_with fail
    go_ret
    exact ⟨ret_i64 HE.out.symm, HB.out⟩
end Go.Proofs.Ythkndjkgokojmaa
