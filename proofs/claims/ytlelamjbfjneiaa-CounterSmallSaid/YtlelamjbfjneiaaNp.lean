/- Contracts of layer 2: Unwrap where the ambiguity is too small. -/
import Derived.Test.YtlelamjbfjneiaaCe
import Derived.Test.YtlelamjbfjneiaaNk
namespace Go.Proofs.Ytlelamjbfjneiaa.Ct
open Go Go.RowKit
attribute [local go_sem] Oper.semAt_some
set_option maxRecDepth 100000 in
set_option maxHeartbeats 4000000 in
theorem Unwrap_no (c : Cnt) (m : Nat → Int) (n : Nat) (p : Option Addr) (cap : Nat) (most : Int) (w : World) (hc : CntIn c) (hn : n ≤ 2000) (hm : ∀ i, i < n → showB c (m i) = true) (h1 : 0 ≤ most ∧ most ≤ 1000000000000000) (h2 : c.r / 2 ≤ c.f * most + 2 * faultS c) (hs : FnIn w m n p) :
    Calls Try.prog 18 #[cntVal c, .slice p n cap, .int .i64 most] w fun e w' => e = .returned (.tuple #[.slice none 0 0, .int .i64 31]) ∧ Below w.heap.size w w' := by
  have a0 := below_alloc (Below.refl w.heap.size w) (cntObj c)
  have A0 := Lib.hid a0
  have HB := Lib.hid (CBox.new w c)
  have HS := Lib.hid (hs.below a0)
  have HCI := Lib.hid hc
  have HM := Lib.hid hm
  have HCK := Lib.hid (fun W => check_any c W)
  rw [show checkC c = 0 from if_pos (cntB_of hc)] at HCK
  have HSH := Lib.hid (fun i W => canShow_any c (m i) W hc)
  have HER := Lib.hid (fun W => error_any c W hc)
  have hr := hc.r
  have hmb : ∀ i, i < n → -1000000000000000 ≤ m i ∧ m i ≤ 1000000000000000 := fun i hi => by
    have := hm i hi
    simp only [showB, Bool.and_eq_true, decide_eq_true_eq] at this
    omega
  have hfb := mul_bd c.f most 1000 1000000000000000 (by have := hc.f; omega) (by omega)
  have hj := hc.j
  have hg := hc.g
  have k1 : IntKind.i64.wrap (c.f * most) = c.f * most := IntWalk.i64_in _ (by omega)
  have k2 : IntKind.i64.wrap (2 * faultS c) = 2 * faultS c := IntWalk.i64_in _ (by unfold faultS; omega)
  have k3 : IntKind.i64.wrap (c.f * most + 2 * faultS c) = c.f * most + 2 * faultS c := IntWalk.i64_in _ (by unfold faultS; omega)
  have k4 : IntKind.i64.wrap (c.r.tdiv 2) = c.r / 2 := IntWalk.i64_quo c.r 2 (by omega)
  have hd1 : decide (most < 0) = false := by simp; omega
  have hmo : ¬ (1000000000000000 < most) := by omega
  generalize faultS c = fa at *
  clear a0 hs hc hm hmb hfb hj hg h1 hr
  unfold cntObj at A0 HB HS
  unfold cntVal at HCK HSH HER
  unfold cntVal
  go_enter Try.func18, Try.ntmps18
  obtain ⟨x0, x1, x2, x3, x4, x5, x6⟩ := HB.out
  have hz := cell_lt x0
  go_wp2_with fail
  refine (HCK.out _).mono ?_
  rintro e w1 ⟨rfl, hb⟩
  have HB1 := Lib.hid (HB.out.below hb)
  have A1 := Lib.hid (A0.out.trans (hb.mono A0.out.size))
  have HS1 := Lib.hid (HS.out.below hb)
  clear hb x0 x1 x2 x3 x4 x5 x6 hz HB A0 HS
  go_wp2
  go_loopw [21] (fun i wr => ∃ k : Nat, k ≤ n ∧ i = .int .i64 (k : Int) ∧ Hid (CBox wr w.heap.size c) ∧ Hid (FnIn wr m n p) ∧ Hid (Below w.heap.size w wr)) (fun i _ => n - (intOf i).toNat)
  case atStart => exact ⟨0, Nat.zero_le _, rfl, HB1, HS1, A1⟩
  case round =>
    obtain ⟨k, hk, rfl, HE, HSr, HBr⟩ := hrel
    obtain ⟨x0, x1, x2, x3, x4, x5, x6⟩ := HE.out
    have hz := cell_lt x0
    by_cases hlt : k < n
    · have hki : (k : Int) < (n : Int) := by omega
      obtain ⟨bs, os, rfl, hsrc⟩ := HSr.out.resolve_left (by omega)
      have hmk := hsrc k hlt
      have hz2 := cell_lt hmk
      have v1 : IntKind.i64.wrap ((k : Int) + 1) = (k : Int) + 1 := IntWalk.i64_in _ (by omega)
      have HSK := Lib.hid (HSH.out k)
      rw [HM.out k hlt] at HSK
      clear hsrc
      generalize m k = mk at *
      go_wp2_with fail
      refine (HSK.out _).mono ?_
      rintro e w2 ⟨rfl, hb⟩
      have HE2 := Lib.hid (HE.out.below hb)
      have HS2 := Lib.hid (HSr.out.below hb)
      have HB2 := Lib.hid (HBr.out.trans (hb.mono HBr.out.size))
      clear hb x0 x1 x2 x3 x4 x5 x6 hz hz2 hmk
      go_wp2
      go_roundw
      case rel => exact ⟨k + 1, by omega, by simp, HE2, HS2, HB2⟩
      case measure => simp [intOf]; omega
    · obtain rfl : k = n := by omega
      go_upto_region 14 with fail
      have HK := Lib.hid (fun (W : World) (hb : Below wr.heap.size wr W) => box_keep wr w.heap.size c HE.out W hb)
      have hB0 : Below wr.heap.size wr wr.drew := Below.drew (Below.refl _ _)
      have HEK := Lib.hid (fun (W : World) (hb : Below wr.heap.size wr W) => (HER.out W).mono fun _ _ h => And.intro h.1 (hb.trans (h.2.mono hb.size)))
      clear x0 x1 x2 x3 x4 x5 x6 hz
      go_region_held3 (fun w' => w'.cell? ⟨w.heap.size, 0, none⟩ = some (.int .i64 c.f) ∧ w'.cell? ⟨w.heap.size, 1, none⟩ = some (.int .i64 c.o) ∧ w'.cell? ⟨w.heap.size, 2, none⟩ = some (.int .i64 c.j) ∧ w'.cell? ⟨w.heap.size, 3, none⟩ = some (.int .i64 c.g) ∧ w'.cell? ⟨w.heap.size, 4, none⟩ = some (.int .i64 c.r) ∧ w'.cell? ⟨w.heap.size, 5, none⟩ = some (.int .i64 c.d) ∧ w'.cell? ⟨w.heap.size, 6, none⟩ = some (.int .i64 c.i))
        (first | exact HK.out _ hbA | exact HK.out _ hB0 | exact HK.out _ (Below.refl _ _))
        (first | (go_at_call 36; refine (HEK.out _ hB0).mono ?_; rintro e wA ⟨rfl, hbA⟩))
      have HBA := Lib.hid (HBr.out.trans (hbA.mono HBr.out.size))
      have HEA := Lib.hid (HE.out.below hbA)
      clear hbA hB0
      obtain ⟨x0, x1, x2, x3, x4, x5, x6⟩ := HEA.out
      have hz := cell_lt x0
      go_wp2_with fail
      go_ret2
      exact ⟨rfl, HBA.out⟩
end Go.Proofs.Ytlelamjbfjneiaa.Ct
