/- Contracts of layer 2: Unwrap, its refusals; in all cases. -/
import Derived.Test.YtlelamjbfjneiaaCe
import Derived.Test.YtlelamjbfjneiaaNp
namespace Go.Proofs.Ytlelamjbfjneiaa.Ct
open Go Go.RowKit
attribute [local go_sem] Oper.semAt_some
set_option maxRecDepth 100000 in
set_option maxHeartbeats 4000000 in
theorem Unwrap_err (c : Cnt) (m : Nat → Int) (n : Nat) (p : Option Addr) (cap : Nat) (most r : Int) (w : World) (hs : FnIn w m n p)
    (h : cntB c = false ∧ r = 30 ∨ cntB c = true ∧ (2000 < n ∧ r = 2 ∨ n ≤ 2000 ∧ ((∃ i, i < n ∧ showB c (m i) = false) ∧ r = 6 ∨ (∀ i, i < n → showB c (m i) = true) ∧ (1000000000000000 < most ∧ r = 6 ∨ most < 0 ∧ r = 31)))) :
    Calls Try.prog 18 #[cntVal c, .slice p n cap, .int .i64 most] w fun e w' => e = .returned (.tuple #[.slice none 0 0, .int .i64 r]) ∧ Below w.heap.size w w' := by
  have a0 := below_alloc (Below.refl w.heap.size w) (cntObj c)
  have A0 := Lib.hid a0
  have HB := Lib.hid (CBox.new w c)
  have HS := Lib.hid (hs.below a0)
  have HCK := Lib.hid (fun W => check_any c W)
  clear hs a0
  unfold cntObj at A0 HB HS
  unfold cntVal at HCK
  unfold cntVal
  rcases h with ⟨hc, rfl⟩ | ⟨hc, h⟩
  · rw [show checkC c = 30 from by unfold checkC; rw [if_neg (by rw [hc]; decide)]] at HCK
    clear hc
    go_enter Try.func18, Try.ntmps18
    obtain ⟨x0, x1, x2, x3, x4, x5, x6⟩ := HB.out
    have hz := cell_lt x0
    go_wp2_with fail
    refine (HCK.out _).mono ?_
    rintro e w1 ⟨rfl, hb⟩
    have A1 := Lib.hid (A0.out.trans (hb.mono A0.out.size))
    clear hb x0 x1 x2 x3 x4 x5 x6 hz HB A0 HS
    go_wp2_with fail
    go_ret2
    exact ⟨rfl, A1.out⟩
  · rw [show checkC c = 0 from if_pos hc] at HCK
    have HSH := Lib.hid (fun i W => canShow_any c (m i) W (cntB_in hc))
    unfold cntVal at HSH
    clear hc
    rcases h with ⟨hn, rfl⟩ | ⟨hn, h⟩
    · have hn' : (2000 : Int) < (n : Int) := by omega
      clear hn
      go_enter Try.func18, Try.ntmps18
      obtain ⟨x0, x1, x2, x3, x4, x5, x6⟩ := HB.out
      have hz := cell_lt x0
      go_wp2_with fail
      refine (HCK.out _).mono ?_
      rintro e w1 ⟨rfl, hb⟩
      have A1 := Lib.hid (A0.out.trans (hb.mono A0.out.size))
      clear hb x0 x1 x2 x3 x4 x5 x6 hz HB A0 HS
      go_wp2_with fail
      go_ret2
      exact ⟨rfl, A1.out⟩
    · have HH := Lib.hid h
      clear h
      have hn' : ¬ (2000 : Int) < (n : Int) := by omega
      go_enter Try.func18, Try.ntmps18
      obtain ⟨x0, x1, x2, x3, x4, x5, x6⟩ := HB.out
      have hz := cell_lt x0
      go_wp2_with fail
      refine (HCK.out _).mono ?_
      rintro e w1 ⟨rfl, hb⟩
      have HB1 := Lib.hid (HB.out.below hb)
      have A1 := Lib.hid (A0.out.trans (hb.mono A0.out.size))
      have HS1 := Lib.hid (HS.out.below hb)
      clear hb x0 x1 x2 x3 x4 x5 x6 hz HB A0 HS
      go_wp2
      go_loopw [21] (fun i wr => ∃ k : Nat, k ≤ n ∧ i = .int .i64 (k : Int) ∧ Hid (∀ i, i < k → showB c (m i) = true) ∧ Hid (CBox wr w.heap.size c) ∧ Hid (FnIn wr m n p) ∧ Hid (Below w.heap.size w wr)) (fun i _ => n - (intOf i).toNat)
      case atStart => exact ⟨0, Nat.zero_le _, rfl, Lib.hid fun i hi => absurd hi (Nat.not_lt_zero i), HB1, HS1, A1⟩
      case round =>
        obtain ⟨k, hk, rfl, HA, HE, HSr, HBr⟩ := hrel
        obtain ⟨x0, x1, x2, x3, x4, x5, x6⟩ := HE.out
        have hz := cell_lt x0
        by_cases hlt : k < n
        · have hki : (k : Int) < (n : Int) := by omega
          obtain ⟨bs, os, rfl, hsrc⟩ := HSr.out.resolve_left (by omega)
          have hmk := hsrc k hlt
          have hz2 := cell_lt hmk
          have v1 : IntKind.i64.wrap ((k : Int) + 1) = (k : Int) + 1 := IntWalk.i64_in _ (by omega)
          have HSK := Lib.hid (HSH.out k)
          clear hsrc
          obtain ⟨sk, hsk⟩ : ∃ s, s = showB c (m k) := ⟨_, rfl⟩
          rw [← hsk] at HSK
          have HSQ := Lib.hid hsk
          clear hsk
          obtain ⟨mk, hmkk⟩ : ∃ x, x = m k := ⟨_, rfl⟩
          rw [← hmkk] at HSK hmk
          clear hmkk
          cases sk with
          | true =>
            go_wp2_with fail
            refine (HSK.out _).mono ?_
            rintro e w2 ⟨rfl, hb⟩
            have HE2 := Lib.hid (HE.out.below hb)
            have HS2 := Lib.hid (HSr.out.below hb)
            have HB2 := Lib.hid (HBr.out.trans (hb.mono HBr.out.size))
            clear hb x0 x1 x2 x3 x4 x5 x6 hz hz2 hmk
            go_wp2
            go_roundw
            case rel => exact ⟨k + 1, by omega, by simp, Lib.hid fun i hi => (by
              by_cases e : i = k
              · rw [e]; exact HSQ.out.symm
              · exact HA.out i (by omega)), HE2, HS2, HB2⟩
            case measure => simp [intOf]; omega
          | false =>
            have hr : r = 6 := by
              rcases HH.out with ⟨-, h⟩ | ⟨h, -⟩
              · exact h
              · exact absurd (h k hlt) (by rw [← HSQ.out]; decide)
            subst hr
            go_wp2_with fail
            refine (HSK.out _).mono ?_
            rintro e w2 ⟨rfl, hb⟩
            have HB2 := Lib.hid (HBr.out.trans (hb.mono HBr.out.size))
            clear hb x0 x1 x2 x3 x4 x5 x6 hz hz2 hmk
            go_wp2_with fail
            go_ret2
            exact ⟨rfl, HB2.out⟩
        · obtain rfl : k = n := by omega
          clear hlt
          rcases HH.out with ⟨⟨i, hi, h⟩, -⟩ | ⟨-, h⟩
          · exact absurd (HA.out i hi) (by rw [h]; decide)
          rcases h with ⟨h1, rfl⟩ | ⟨h1, rfl⟩
          · go_wp2_with fail
            go_ret2
            exact ⟨rfl, HBr.out⟩
          · have h2 : ¬ 1000000000000000 < most := by omega
            have hd : decide (most < 0) = true := by simpa using h1
            go_upto_region 14 with fail
            go_quiet (fail)
            go_wp2_with fail
            go_ret2
            exact ⟨rfl, below_drewN HBr.out _⟩
/-- the error of Unwrap -/
def unwErr (c : Cnt) (m : Nat → Int) (n : Nat) (most : Int) : Int :=
  if cntB c = true then (if n ≤ 2000 then (if (List.range n).all (fun i => showB c (m i)) = true then (if 1000000000000000 < most then 6 else if most < 0 ∨ c.r / 2 ≤ c.f * most + 2 * faultS c then 31 else 0) else 6) else 2) else 30
def UnwAny (c : Cnt) (m : Nat → Int) (n : Nat) (most : Int) (w : World) (e : Ending) (w' : World) : Prop :=
  (unwErr c m n most ≠ 0 ∧ e = .returned (.tuple #[.slice none 0 0, .int .i64 (unwErr c m n most)]) ∨
   unwErr c m n most = 0 ∧ ∃ p cap, e = .returned (.tuple #[.slice p n cap, .int .i64 0]) ∧ FnIn w' (unwS c m) n p) ∧ Below w.heap.size w w'
theorem all_shown {c : Cnt} {m : Nat → Int} {n : Nat} : (List.range n).all (fun i => showB c (m i)) = true ↔ ∀ i, i < n → showB c (m i) = true := by
  simp [List.all_eq_true]
theorem some_not {c : Cnt} {m : Nat → Int} {n : Nat} (h : ¬ (List.range n).all (fun i => showB c (m i)) = true) : ∃ i, i < n ∧ showB c (m i) = false := by
  by_cases h' : ∃ i, i < n ∧ showB c (m i) = false
  · exact h'
  · refine absurd (all_shown.2 fun i hi => ?_) h
    cases hb : showB c (m i) with
    | true => rfl
    | false => exact absurd ⟨i, hi, hb⟩ h'
/-- Unwrap, whatever it is asked -/
theorem Unwrap_any (c : Cnt) (m : Nat → Int) (n : Nat) (p : Option Addr) (cap : Nat) (most : Int) (w : World) (hs : FnIn w m n p) :
    Calls Try.prog 18 #[cntVal c, .slice p n cap, .int .i64 most] w (UnwAny c m n most w) := by
  have no : ∀ r : Int, r ≠ 0 → unwErr c m n most = r → (Calls Try.prog 18 #[cntVal c, .slice p n cap, .int .i64 most] w fun e w' => e = .returned (.tuple #[.slice none 0 0, .int .i64 r]) ∧ Below w.heap.size w w') → Calls Try.prog 18 #[cntVal c, .slice p n cap, .int .i64 most] w (UnwAny c m n most w) := fun r hr he H =>
    H.mono fun e w' h => ⟨.inl (by rw [he]; exact ⟨hr, h.1⟩), h.2⟩
  by_cases hc : cntB c = true
  · by_cases hn : n ≤ 2000
    · by_cases ha : (List.range n).all (fun i => showB c (m i)) = true
      · by_cases hm : 1000000000000000 < most
        · exact no 6 (by decide) (by unfold unwErr; rw [if_pos hc, if_pos hn, if_pos ha, if_pos hm]) (Unwrap_err c m n p cap most 6 w hs (.inr ⟨hc, .inr ⟨hn, .inr ⟨all_shown.1 ha, .inl ⟨hm, rfl⟩⟩⟩⟩))
        · by_cases h0 : most < 0
          · exact no 31 (by decide) (by unfold unwErr; rw [if_pos hc, if_pos hn, if_pos ha, if_neg hm, if_pos (.inl h0)]) (Unwrap_err c m n p cap most 31 w hs (.inr ⟨hc, .inr ⟨hn, .inr ⟨all_shown.1 ha, .inr ⟨h0, rfl⟩⟩⟩⟩))
          · by_cases h1 : c.r / 2 ≤ c.f * most + 2 * faultS c
            · exact no 31 (by decide) (by unfold unwErr; rw [if_pos hc, if_pos hn, if_pos ha, if_neg hm, if_pos (.inr h1)]) (Unwrap_no c m n p cap most w (cntB_in hc) hn (all_shown.1 ha) (by omega) h1 hs)
            · have he : unwErr c m n most = 0 := by unfold unwErr; rw [if_pos hc, if_pos hn, if_pos ha, if_neg hm, if_neg (by omega)]
              refine (Unwrap_ok c m n p cap most w (cntB_in hc) hn (all_shown.1 ha) (by omega) (by omega) hs).mono fun e w' ⟨g, h1, h2, _, h3⟩ => ⟨.inr ⟨he, some ⟨g, 0, none⟩, n, h1, .inr ⟨g, 0, rfl, h2⟩⟩, h3⟩
      · exact no 6 (by decide) (by unfold unwErr; rw [if_pos hc, if_pos hn, if_neg ha]) (Unwrap_err c m n p cap most 6 w hs (.inr ⟨hc, .inr ⟨hn, .inl ⟨some_not ha, rfl⟩⟩⟩))
    · exact no 2 (by decide) (by unfold unwErr; rw [if_pos hc, if_neg hn]) (Unwrap_err c m n p cap most 2 w hs (.inr ⟨hc, .inl ⟨by omega, rfl⟩⟩))
  · exact no 30 (by decide) (by unfold unwErr; rw [if_neg hc]) (Unwrap_err c m n p cap most 30 w hs (.inl ⟨by simpa using hc, rfl⟩))
end Go.Proofs.Ytlelamjbfjneiaa.Ct
