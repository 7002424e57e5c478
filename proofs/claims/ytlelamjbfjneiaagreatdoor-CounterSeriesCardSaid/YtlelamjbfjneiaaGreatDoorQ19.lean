/- Contracts of layer 2: Narrow. · Contracts of layer 2: Unwrap where the ambiguity is too small. · Contracts of layer 2: Contradict. · Layer 2: the numbers of the chapter's examples. · Contracts of layer 2: Unwrap, its refusals; in all cases. -/
import Derived.Test.YtlelamjbfjneiaaGreatDoorQ11
import Derived.Test.YtlelamjbfjneiaaGreatDoorQ07
import Derived.Test.YtlelamjbfjneiaaGreatDoorQ06
import Derived.Test.YtlelamjbfjneiaaGreatDoorQ18
import Derived.Test.YtlelamjbfjneiaaGreatDoorQ17
import Derived.Test.YtlelamjbfjneiaaGreatDoorQ08
namespace Go.Proofs.YtlelamjbfjneiaaGreatDoor.Ct
open Go Go.RowKit Go.Shelf
theorem narrow_err (n : Int) (l : List Bnd) (p : Option Addr) (cap : Nat) (w : World) (hl : l.length ≤ maxLen) (hs : BndsIn w l p) (he : netErr n l ≠ 0) :
    Calls Tryz.prog 21 #[.int .i64 n, .slice p l.length cap] w fun e w' => e = .returned (.tuple #[.slice none 0 0, .int .i64 (netErr n l)]) ∧ Below w.heap.size w w' := by
  have HC := Lib.hid (checkNet_any n l p cap w hl hs)
  generalize netErr n l = ne at *
  have hne : (ne != 0) = true := by simpa using he
  clear hs hl
  go_enter Tryz.func21, Tryz.ntmps21
  go_wp2_with (go_at_call 49; refine HC.out.mono ?_; rintro e w1 ⟨rfl, hb⟩; have HB := Lib.hid hb; clear hb)
  go_ret2
  exact ⟨rfl, HB.out⟩
theorem narrow_no (n : Nat) (l : List Bnd) (p : Option Addr) (cap : Nat) (w : World) (hs : BndsIn w l p) (he : netErr n l = 0) (hc : calmAll n l = true) (h0 : (narrowS n l).2 = false) :
    Calls Tryz.prog 21 #[.int .i64 n, .slice p l.length cap] w fun e w' => e = .returned (.tuple #[.slice none 0 0, .int .i64 12]) ∧ Below w.heap.size w w' := by
  have HC := Lib.hid (checkNet_any n l p cap w (by have := (lims_of he).2.len; unfold maxLen; omega) hs)
  rw [he] at HC
  have HN := Lib.hid (fun W (hb : Below w.heap.size w W) => narrowest_any n l p cap W (hs.below hb) he hc)
  unfold NarRet at HN
  rw [h0] at HN
  clear hs he hc h0
  go_enter Tryz.func21, Tryz.ntmps21
  go_wp2_with (first | (go_at_call 49; refine HC.out.mono ?_; rintro e w1 ⟨rfl, hb⟩; have HB := Lib.hid hb; clear hb) | (go_at_call 50; refine (HN.out _ HB.out).mono ?_; rintro e w2 ⟨g, bs, rfl, hm⟩; have HM := Lib.hid hm.bel; clear hm))
  go_ret2
  exact ⟨rfl, HB.out.trans (HM.out.mono HB.out.size)⟩
/-- the narrowest matrix comes back -/
theorem narrow_ok (n : Nat) (l : List Bnd) (p : Option Addr) (cap : Nat) (w : World) (hs : BndsIn w l p) (he : netErr n l = 0) (hc : calmAll n l = true) (h0 : (narrowS n l).2 = true) :
    Calls Tryz.prog 21 #[.int .i64 n, .slice p l.length cap] w fun e w' => ∃ g bs, e = .returned (.tuple #[.slice (some ⟨g, 0, none⟩) n n, .int .i64 0]) ∧ MatAt w w' n g bs (narrowS n l).1 := by
  have HC := Lib.hid (checkNet_any n l p cap w (by have := (lims_of he).2.len; unfold maxLen; omega) hs)
  rw [he] at HC
  have HN := Lib.hid (fun W (hb : Below w.heap.size w W) => narrowest_any n l p cap W (hs.below hb) he hc)
  unfold NarRet at HN
  rw [h0] at HN
  clear hs he hc h0
  go_enter Tryz.func21, Tryz.ntmps21
  go_wp2_with (first | (go_at_call 49; refine HC.out.mono ?_; rintro e w1 ⟨rfl, hb⟩; have HB := Lib.hid hb; clear hb) | (go_at_call 50; refine (HN.out _ HB.out).mono ?_; rintro e w2 ⟨g, bs, rfl, hm⟩; have HM := Lib.hid hm; clear hm))
  go_ret2
  exact ⟨g, bs, rfl, HM.out.rows, HM.out.at_, HM.out.inj, HM.out.ne, fun i hi => Nat.le_trans HB.out.size (HM.out.ge i hi), HB.out.trans (HM.out.bel.mono HB.out.size)⟩
end Go.Proofs.YtlelamjbfjneiaaGreatDoor.Ct
namespace Go.Proofs.YtlelamjbfjneiaaGreatDoor.Ct
open Go Go.RowKit
attribute [local go_sem] Oper.semAt_some
set_option maxRecDepth 100000 in
set_option maxHeartbeats 4000000 in
theorem Unwrap_no (c : Cnt) (m : Nat → Int) (n : Nat) (p : Option Addr) (cap : Nat) (most : Int) (w : World) (hc : CntIn c) (hn : n ≤ 2000) (hm : ∀ i, i < n → showB c (m i) = true) (h1 : 0 ≤ most ∧ most ≤ 1000000000000000) (h2 : c.r / 2 ≤ c.f * most + 2 * faultS c) (hs : FnIn w m n p) :
    Calls Tryz.prog 13 #[cntVal c, .slice p n cap, .int .i64 most] w fun e w' => e = .returned (.tuple #[.slice none 0 0, .int .i64 31]) ∧ Below w.heap.size w w' := by
  have a0 := below_alloc (Below.refl w.heap.size w) (cntObj c)
  have A0 := Lib.hid a0
  have HB := Lib.hid (CBox.new w c)
  have HS := Lib.hid (hs.below a0)
  have HCI := Lib.hid hc
  have HM := Lib.hid hm
  have HCK := Lib.hid (fun W => check_any c W)
  rw [show checkC c = 0 from if_pos (cntB_of hc)] at HCK
  have HSH := Lib.hid (fun i W => canShow_any c (m i) W hc)
  have HER := Lib.hid (fun W => error_any c W hc)
  have hr := hc.r
  have hmb : ∀ i, i < n → -1000000000000000 ≤ m i ∧ m i ≤ 1000000000000000 := fun i hi => by
    have := hm i hi
    simp only [showB, Bool.and_eq_true, decide_eq_true_eq] at this
    omega
  have hfb := mul_bd c.f most 1000 1000000000000000 (by have := hc.f; omega) (by omega)
  have hj := hc.j
  have hg := hc.g
  have k1 : IntKind.i64.wrap (c.f * most) = c.f * most := IntWalk.i64_in _ (by omega)
  have k2 : IntKind.i64.wrap (2 * faultS c) = 2 * faultS c := IntWalk.i64_in _ (by unfold faultS; omega)
  have k3 : IntKind.i64.wrap (c.f * most + 2 * faultS c) = c.f * most + 2 * faultS c := IntWalk.i64_in _ (by unfold faultS; omega)
  have k4 : IntKind.i64.wrap (c.r.tdiv 2) = c.r / 2 := IntWalk.i64_quo c.r 2 (by omega)
  have hd1 : decide (most < 0) = false := by simp; omega
  have hmo : ¬ (1000000000000000 < most) := by omega
  generalize faultS c = fa at *
  clear a0 hs hc hm hmb hfb hj hg h1 hr
  unfold cntObj at A0 HB HS
  unfold cntVal at HCK HSH HER
  unfold cntVal
  go_enter Tryz.func13, Tryz.ntmps13
  obtain ⟨x0, x1, x2, x3, x4, x5, x6⟩ := HB.out
  have hz := cell_lt x0
  go_wp2_with fail
  refine (HCK.out _).mono ?_
  rintro e w1 ⟨rfl, hb⟩
  have HB1 := Lib.hid (HB.out.below hb)
  have A1 := Lib.hid (A0.out.trans (hb.mono A0.out.size))
  have HS1 := Lib.hid (HS.out.below hb)
  clear hb x0 x1 x2 x3 x4 x5 x6 hz HB A0 HS
  go_wp2
  go_loopw [21] (fun i wr => ∃ k : Nat, k ≤ n ∧ i = .int .i64 (k : Int) ∧ Hid (CBox wr w.heap.size c) ∧ Hid (FnIn wr m n p) ∧ Hid (Below w.heap.size w wr)) (fun i _ => n - (intOf i).toNat)
  case atStart => exact ⟨0, Nat.zero_le _, rfl, HB1, HS1, A1⟩
  case round =>
    obtain ⟨k, hk, rfl, HE, HSr, HBr⟩ := hrel
    obtain ⟨x0, x1, x2, x3, x4, x5, x6⟩ := HE.out
    have hz := cell_lt x0
    by_cases hlt : k < n
    · have hki : (k : Int) < (n : Int) := by omega
      obtain ⟨bs, os, rfl, hsrc⟩ := HSr.out.resolve_left (by omega)
      have hmk := hsrc k hlt
      have hz2 := cell_lt hmk
      have v1 : IntKind.i64.wrap ((k : Int) + 1) = (k : Int) + 1 := IntWalk.i64_in _ (by omega)
      have HSK := Lib.hid (HSH.out k)
      rw [HM.out k hlt] at HSK
      clear hsrc
      generalize m k = mk at *
      go_wp2_with fail
      refine (HSK.out _).mono ?_
      rintro e w2 ⟨rfl, hb⟩
      have HE2 := Lib.hid (HE.out.below hb)
      have HS2 := Lib.hid (HSr.out.below hb)
      have HB2 := Lib.hid (HBr.out.trans (hb.mono HBr.out.size))
      clear hb x0 x1 x2 x3 x4 x5 x6 hz hz2 hmk
      go_wp2
      go_roundw
      case rel => exact ⟨k + 1, by omega, by simp, HE2, HS2, HB2⟩
      case measure => simp [intOf]; omega
    · obtain rfl : k = n := by omega
      go_upto_region 14 with fail
      have HK := Lib.hid (fun (W : World) (hb : Below wr.heap.size wr W) => box_keep wr w.heap.size c HE.out W hb)
      have hB0 : Below wr.heap.size wr wr.drew := Below.drew (Below.refl _ _)
      have HEK := Lib.hid (fun (W : World) (hb : Below wr.heap.size wr W) => (HER.out W).mono fun _ _ h => And.intro h.1 (hb.trans (h.2.mono hb.size)))
      clear x0 x1 x2 x3 x4 x5 x6 hz
      go_region_held3 (fun w' => w'.cell? ⟨w.heap.size, 0, none⟩ = some (.int .i64 c.f) ∧ w'.cell? ⟨w.heap.size, 1, none⟩ = some (.int .i64 c.o) ∧ w'.cell? ⟨w.heap.size, 2, none⟩ = some (.int .i64 c.j) ∧ w'.cell? ⟨w.heap.size, 3, none⟩ = some (.int .i64 c.g) ∧ w'.cell? ⟨w.heap.size, 4, none⟩ = some (.int .i64 c.r) ∧ w'.cell? ⟨w.heap.size, 5, none⟩ = some (.int .i64 c.d) ∧ w'.cell? ⟨w.heap.size, 6, none⟩ = some (.int .i64 c.i))
        (first | exact HK.out _ hbA | exact HK.out _ hB0 | exact HK.out _ (Below.refl _ _))
        (first | (go_at_call 32; refine (HEK.out _ hB0).mono ?_; rintro e wA ⟨rfl, hbA⟩))
      have HBA := Lib.hid (HBr.out.trans (hbA.mono HBr.out.size))
      have HEA := Lib.hid (HE.out.below hbA)
      clear hbA hB0
      obtain ⟨x0, x1, x2, x3, x4, x5, x6⟩ := HEA.out
      have hz := cell_lt x0
      go_wp2_with fail
      go_ret2
      exact ⟨rfl, HBA.out⟩
end Go.Proofs.YtlelamjbfjneiaaGreatDoor.Ct
namespace Go.Proofs.YtlelamjbfjneiaaGreatDoor.Ct
open Go Go.RowKit Go.Shelf
theorem contradict_err (n : Int) (l : List Bnd) (p : Option Addr) (cap : Nat) (w : World) (hl : l.length ≤ maxLen) (hs : BndsIn w l p) (he : netErr n l ≠ 0) :
    Calls Tryz.prog 23 #[.int .i64 n, .slice p l.length cap] w fun e w' => e = .returned (.tuple #[.slice none 0 0, .int .i64 (netErr n l)]) ∧ Below w.heap.size w w' := by
  have HC := Lib.hid (checkNet_any n l p cap w hl hs)
  generalize netErr n l = ne at *
  have hne : (ne != 0) = true := by simpa using he
  clear hs hl
  go_enter Tryz.func23, Tryz.ntmps23
  go_wp2_with (go_at_call 49; refine HC.out.mono ?_; rintro e w1 ⟨rfl, hb⟩; have HB := Lib.hid hb; clear hb)
  go_ret2
  exact ⟨rfl, HB.out⟩
/-- what Contradict hands back -/
def ConAns (n : Nat) (l : List Bnd) (w : World) (e : Ending) (w' : World) : Prop := (∃ u p cap, e = .returned (.tuple #[.slice p u.length cap, .int .i64 (if u.length = 0 then 4 else 0)]) ∧ UsesIn w' u p ∧ ConOf n l u ∧ u.length ≤ cap ∧ cap ≤ maxLen) ∧ Below w.heap.size w w'
theorem contradict_any (n : Nat) (l : List Bnd) (p : Option Addr) (cap : Nat) (w : World) (hs : BndsIn w l p) (he : netErr n l = 0) :
    Calls Tryz.prog 23 #[.int .i64 n, .slice p l.length cap] w (ConAns n l w) := by
  obtain ⟨hn, hl⟩ := lims_of he
  have HC := Lib.hid (checkNet_any n l p cap w (by have := hl.len; unfold maxLen; omega) hs)
  rw [he] at HC
  have HN := Lib.hid (fun W (hb : Below w.heap.size w W) => contradiction_any n l p cap W hn hl (hs.below hb))
  clear hs he hl
  go_enter Tryz.func23, Tryz.ntmps23
  go_upto_region 5 with (first | (go_at_call 49; refine HC.out.mono ?_; rintro e w1 ⟨rfl, hb⟩; have HB := Lib.hid hb; clear hb) | (go_at_call 52; refine (HN.out _ HB.out).mono ?_; rintro e w2 ⟨⟨u, p', cap', rfl, hu, hc, hcap⟩, hb⟩; have HCAP := Lib.hid hcap; have HM := Lib.hid hb; have HU := Lib.hid hu; have HK := Lib.hid hc; clear hb hu hc hcap))
  have HBM := Lib.hid (HB.out.trans (HM.out.mono HB.out.size))
  by_cases h0 : u.length = 0
  · have hi : (u.length : Int) = 0 := by omega
    have H0 := Lib.hid h0
    clear h0
    go_wp2_with fail
    go_ret2
    exact ⟨⟨[], none, 0, rfl, .inl rfl, by rw [← List.length_eq_zero_iff.1 H0.out]; exact HK.out, Nat.le_refl _, by decide⟩, HBM.out⟩
  · have hi : ¬ (u.length : Int) = 0 := by omega
    have H0 := Lib.hid h0
    clear h0
    go_wp2_with fail
    go_ret2
    exact ⟨⟨u, p', cap', by rw [if_neg H0.out]; rfl, HU.out, HK.out, HCAP.out⟩, HBM.out⟩
end Go.Proofs.YtlelamjbfjneiaaGreatDoor.Ct
namespace Go.Proofs.YtlelamjbfjneiaaGreatDoor.Ct
open Go Go.RowKit Go.Shelf
/-- cells with what lies in them -/
def Has (X : World) (L : List (Nat × Nat × Value)) : Prop := ∀ t, t ∈ L → X.cell? ⟨t.1, t.2.1, none⟩ = some t.2.2
theorem Has.below {X Y : World} {L : List (Nat × Nat × Value)} (h : Has X L) (hb : Below X.heap.size X Y) : Has Y L := fun t ht => cell_below hb (h t ht)
theorem Has.two {X : World} {L M : List (Nat × Nat × Value)} (h : Has X L) (k : Has X M) : Has X (L ++ M) := fun t ht => (List.mem_append.1 ht).elim (h t) (k t)
theorem has_new (X : World) (vs : List Value) (t : TypeId) : Has (X.alloc (.cells vs.toArray t)) ((List.range vs.length).map fun i => (X.heap.size, i, (vs[i]?).getD undef)) := by
  intro x hx
  obtain ⟨i, hi, rfl⟩ := List.mem_map.1 hx
  have := List.mem_range.1 hi
  simp [this]
def exC (f : Int) : Cnt := ⟨f, 0, 0, 100, 1000, 1, 0⟩
theorem ex_in (f : Int) (h : f = 1 ∨ f = 10) : cntB (exC f) = true := by rcases h with rfl | rfl <;> kernel_rfl
theorem draw0 (s i : Int) : drawS s i 0 = 0 := by unfold drawS; simp [Int.emod_one]
theorem aw_show (f d m : Int) (hf : f = 1 ∨ f = 10) (hd : -1000000000000000 ≤ d ∧ d ≤ 1000000000000000) (hm : wrapS (exC f) (roundS (exC f) (f * d + 0)) = m) (W : World) :
    Calls Tryz.prog 19 #[.agg #[.int .i64 f, .int .i64 0, .int .i64 0, .int .i64 100, .int .i64 1000, .int .i64 1, .int .i64 0], .int .u64 5, .int .i64 3, .int .i64 d] W fun e w' => e = .returned (.tuple #[.int .i64 m, .int .i64 0]) ∧ Below W.heap.size W w' := by
  have hE : showErr (exC f) 3 d = 0 := by
    unfold showErr
    rw [if_pos (ex_in f hf), if_pos (by rcases hf with rfl | rfl <;> kernel_rfl), if_pos hd]
  have hh := show_any (exC f) 5 3 d W
  rw [hE, if_pos rfl] at hh
  have e : shownS (exC f) 5 3 d = m := by
    unfold shownS rawS
    rw [← hm, show (exC f).j = 0 from rfl, draw0, show (exC f).o = 0 from rfl, show (exC f).f = f from rfl, Int.add_zero]
  rw [e] at hh
  exact hh
theorem aw_res (f lo hi x y e : Int) (h : resolveS (exC f) 100 lo hi = ((x, y), e)) (W : World) :
    Calls Tryz.prog 20 #[.agg #[.int .i64 f, .int .i64 0, .int .i64 0, .int .i64 100, .int .i64 1000, .int .i64 1, .int .i64 0], .int .i64 100, .agg #[.int .i64 lo, .int .i64 hi]] W fun e' w' => e' = .returned (.tuple #[.agg #[.int .i64 x, .int .i64 y], .int .i64 e]) ∧ Below W.heap.size W w' := by
  have hh := Resolve_any (exC f) 100 lo hi W
  rw [h] at hh
  exact hh
theorem r1 : resolveS (exC 1) 100 0 900 = ((50, 150), 0) := by kernel_rfl
theorem r2 : resolveS (exC 1) 100 140 900 = ((140, 150), 0) := by kernel_rfl
theorem r3 : resolveS (exC 1) 100 0 1100 = ((0, 0), 8) := by kernel_rfl
theorem r4 : resolveS (exC 1) 100 200 900 = ((0, 0), 12) := by kernel_rfl
theorem r5 : resolveS (exC 10) 100 (-40) 40 = ((5, 15), 0) := by kernel_rfl
def exM (i : Nat) : Int := ([400, -500, -400] : List Int)[i]?.getD 0
theorem aw_unw (g : Nat) (W : World) (h : FnIn W exM 3 (some ⟨g, 0, none⟩)) :
    Calls Tryz.prog 13 #[.agg #[.int .i64 1, .int .i64 0, .int .i64 0, .int .i64 100, .int .i64 1000, .int .i64 1, .int .i64 0], .slice (some ⟨g, 0, none⟩) 3 3, .int .i64 100] W (UnwRet2 (exC 1) exM 3 W) :=
  Unwrap_ok (exC 1) exM 3 (some ⟨g, 0, none⟩) 3 100 W (cntB_in (ex_in 1 (.inl rfl))) (by decide) (fun i hi => by
    match i, hi with
    | 0, _ => rfl
    | 1, _ => rfl
    | 2, _ => rfl) (by decide) (by decide) h
theorem unw0 : unwS (exC 1) exM 0 = 400 ∧ unwS (exC 1) exM 1 = 500 ∧ unwS (exC 1) exM 2 = 600 := ⟨by kernel_rfl, by kernel_rfl, by kernel_rfl⟩
def exL (k : Int) : List Bnd := [⟨0, 1, 1, 3⟩, ⟨1, 2, 1, 3⟩, ⟨0, 2, k, 9⟩]
theorem net5 : netErr 3 (exL 5) = 0 := by kernel_rfl
theorem net7 : netErr 3 (exL 7) = 0 := by kernel_rfl
theorem calm5 : calmAll 3 (exL 5) = true := by kernel_rfl
theorem calm7 : calmAll 3 (exL 7) = true := by kernel_rfl
theorem nar5 : (narrowS 3 (exL 5)).2 = true := by kernel_rfl
theorem nar5M : (narrowS 3 (exL 5)).1 = [[0, 3, 6], [-2, 0, 3], [-5, -2, 0]] := by kernel_rfl
theorem nar7 : (narrowS 3 (exL 7)).2 = false := by kernel_rfl
def exK : Nat := itN (backK (exL 7) (roundsK (exL 7) 3)) 3 (roundsK (exL 7) 3).low
theorem con7_s : (roundsK (exL 7) (0 + 1)).settled = false ∧ (roundsK (exL 7) (1 + 1)).settled = false ∧ (roundsK (exL 7) (2 + 1)).settled = false := ⟨by kernel_rfl, by kernel_rfl, by kernel_rfl⟩
theorem con7_c : Nat.beq (itN (backK (exL 7) (roundsK (exL 7) 3)) 1 exK) exK = false ∧ Nat.beq (itN (backK (exL 7) (roundsK (exL 7) 3)) 2 exK) exK = false := ⟨by kernel_rfl, by kernel_rfl⟩
theorem con7_u : cutB (exL 7) (cycK (exL 7) (roundsK (exL 7) 3) exK 3) = true := by kernel_rfl
theorem con7 (u : List (Int × Bool)) (h : ConOf 3 (exL 7) u) : u.length ≤ 240 ∧ u.length ≠ 0 ∧ cutB (exL 7) u = true := by
  rcases h with ⟨rfl, t, ht, hs⟩ | ⟨-, k, c, hk, h1, h2, h3, h4, rfl⟩
  · obtain ⟨s0, s1, s2⟩ := con7_s
    have : t = 0 ∨ t = 1 ∨ t = 2 := by omega
    rcases this with rfl | rfl | rfl
    · rw [s0] at hs; cases hs
    · rw [s1] at hs; cases hs
    · rw [s2] at hs; cases hs
  · obtain ⟨c1, c2⟩ := con7_c
    change k = exK at hk
    rw [hk] at h3 ⊢
    have hc : c = 1 ∨ c = 2 ∨ c = 3 := by omega
    rcases hc with rfl | rfl | rfl
    · exact absurd h3 (Nat.ne_of_beq_eq_false c1)
    · exact absurd h3 (Nat.ne_of_beq_eq_false c2)
    · exact ⟨by rw [cycK_len]; decide, by rw [cycK_len]; decide, con7_u⟩
theorem cut7 : cutB (exL 7) [(2, false), (0, true), (1, true)] = true := by kernel_rfl
end Go.Proofs.YtlelamjbfjneiaaGreatDoor.Ct
namespace Go.Proofs.YtlelamjbfjneiaaGreatDoor.Ct
open Go Go.RowKit
attribute [local go_sem] Oper.semAt_some
set_option maxRecDepth 100000 in
set_option maxHeartbeats 4000000 in
theorem Unwrap_err (c : Cnt) (m : Nat → Int) (n : Nat) (p : Option Addr) (cap : Nat) (most r : Int) (w : World) (hs : FnIn w m n p)
    (h : cntB c = false ∧ r = 30 ∨ cntB c = true ∧ (2000 < n ∧ r = 2 ∨ n ≤ 2000 ∧ ((∃ i, i < n ∧ showB c (m i) = false) ∧ r = 6 ∨ (∀ i, i < n → showB c (m i) = true) ∧ (1000000000000000 < most ∧ r = 6 ∨ most < 0 ∧ r = 31)))) :
    Calls Tryz.prog 13 #[cntVal c, .slice p n cap, .int .i64 most] w fun e w' => e = .returned (.tuple #[.slice none 0 0, .int .i64 r]) ∧ Below w.heap.size w w' := by
  have a0 := below_alloc (Below.refl w.heap.size w) (cntObj c)
  have A0 := Lib.hid a0
  have HB := Lib.hid (CBox.new w c)
  have HS := Lib.hid (hs.below a0)
  have HCK := Lib.hid (fun W => check_any c W)
  clear hs a0
  unfold cntObj at A0 HB HS
  unfold cntVal at HCK
  unfold cntVal
  rcases h with ⟨hc, rfl⟩ | ⟨hc, h⟩
  · rw [show checkC c = 30 from by unfold checkC; rw [if_neg (by rw [hc]; decide)]] at HCK
    clear hc
    go_enter Tryz.func13, Tryz.ntmps13
    obtain ⟨x0, x1, x2, x3, x4, x5, x6⟩ := HB.out
    have hz := cell_lt x0
    go_wp2_with fail
    refine (HCK.out _).mono ?_
    rintro e w1 ⟨rfl, hb⟩
    have A1 := Lib.hid (A0.out.trans (hb.mono A0.out.size))
    clear hb x0 x1 x2 x3 x4 x5 x6 hz HB A0 HS
    go_wp2_with fail
    go_ret2
    exact ⟨rfl, A1.out⟩
  · rw [show checkC c = 0 from if_pos hc] at HCK
    have HSH := Lib.hid (fun i W => canShow_any c (m i) W (cntB_in hc))
    unfold cntVal at HSH
    clear hc
    rcases h with ⟨hn, rfl⟩ | ⟨hn, h⟩
    · have hn' : (2000 : Int) < (n : Int) := by omega
      clear hn
      go_enter Tryz.func13, Tryz.ntmps13
      obtain ⟨x0, x1, x2, x3, x4, x5, x6⟩ := HB.out
      have hz := cell_lt x0
      go_wp2_with fail
      refine (HCK.out _).mono ?_
      rintro e w1 ⟨rfl, hb⟩
      have A1 := Lib.hid (A0.out.trans (hb.mono A0.out.size))
      clear hb x0 x1 x2 x3 x4 x5 x6 hz HB A0 HS
      go_wp2_with fail
      go_ret2
      exact ⟨rfl, A1.out⟩
    · have HH := Lib.hid h
      clear h
      have hn' : ¬ (2000 : Int) < (n : Int) := by omega
      go_enter Tryz.func13, Tryz.ntmps13
      obtain ⟨x0, x1, x2, x3, x4, x5, x6⟩ := HB.out
      have hz := cell_lt x0
      go_wp2_with fail
      refine (HCK.out _).mono ?_
      rintro e w1 ⟨rfl, hb⟩
      have HB1 := Lib.hid (HB.out.below hb)
      have A1 := Lib.hid (A0.out.trans (hb.mono A0.out.size))
      have HS1 := Lib.hid (HS.out.below hb)
      clear hb x0 x1 x2 x3 x4 x5 x6 hz HB A0 HS
      go_wp2
      go_loopw [21] (fun i wr => ∃ k : Nat, k ≤ n ∧ i = .int .i64 (k : Int) ∧ Hid (∀ i, i < k → showB c (m i) = true) ∧ Hid (CBox wr w.heap.size c) ∧ Hid (FnIn wr m n p) ∧ Hid (Below w.heap.size w wr)) (fun i _ => n - (intOf i).toNat)
      case atStart => exact ⟨0, Nat.zero_le _, rfl, Lib.hid fun i hi => absurd hi (Nat.not_lt_zero i), HB1, HS1, A1⟩
      case round =>
        obtain ⟨k, hk, rfl, HA, HE, HSr, HBr⟩ := hrel
        obtain ⟨x0, x1, x2, x3, x4, x5, x6⟩ := HE.out
        have hz := cell_lt x0
        by_cases hlt : k < n
        · have hki : (k : Int) < (n : Int) := by omega
          obtain ⟨bs, os, rfl, hsrc⟩ := HSr.out.resolve_left (by omega)
          have hmk := hsrc k hlt
          have hz2 := cell_lt hmk
          have v1 : IntKind.i64.wrap ((k : Int) + 1) = (k : Int) + 1 := IntWalk.i64_in _ (by omega)
          have HSK := Lib.hid (HSH.out k)
          clear hsrc
          obtain ⟨sk, hsk⟩ : ∃ s, s = showB c (m k) := ⟨_, rfl⟩
          rw [← hsk] at HSK
          have HSQ := Lib.hid hsk
          clear hsk
          obtain ⟨mk, hmkk⟩ : ∃ x, x = m k := ⟨_, rfl⟩
          rw [← hmkk] at HSK hmk
          clear hmkk
          cases sk with
          | true =>
            go_wp2_with fail
            refine (HSK.out _).mono ?_
            rintro e w2 ⟨rfl, hb⟩
            have HE2 := Lib.hid (HE.out.below hb)
            have HS2 := Lib.hid (HSr.out.below hb)
            have HB2 := Lib.hid (HBr.out.trans (hb.mono HBr.out.size))
            clear hb x0 x1 x2 x3 x4 x5 x6 hz hz2 hmk
            go_wp2
            go_roundw
            case rel => exact ⟨k + 1, by omega, by simp, Lib.hid fun i hi => (by
              by_cases e : i = k
              · rw [e]; exact HSQ.out.symm
              · exact HA.out i (by omega)), HE2, HS2, HB2⟩
            case measure => simp [intOf]; omega
          | false =>
            have hr : r = 6 := by
              rcases HH.out with ⟨-, h⟩ | ⟨h, -⟩
              · exact h
              · exact absurd (h k hlt) (by rw [← HSQ.out]; decide)
            subst hr
            go_wp2_with fail
            refine (HSK.out _).mono ?_
            rintro e w2 ⟨rfl, hb⟩
            have HB2 := Lib.hid (HBr.out.trans (hb.mono HBr.out.size))
            clear hb x0 x1 x2 x3 x4 x5 x6 hz hz2 hmk
            go_wp2_with fail
            go_ret2
            exact ⟨rfl, HB2.out⟩
        · obtain rfl : k = n := by omega
          clear hlt
          rcases HH.out with ⟨⟨i, hi, h⟩, -⟩ | ⟨-, h⟩
          · exact absurd (HA.out i hi) (by rw [h]; decide)
          rcases h with ⟨h1, rfl⟩ | ⟨h1, rfl⟩
          · go_wp2_with fail
            go_ret2
            exact ⟨rfl, HBr.out⟩
          · have h2 : ¬ 1000000000000000 < most := by omega
            have hd : decide (most < 0) = true := by simpa using h1
            go_upto_region 14 with fail
            go_quiet (fail)
            go_wp2_with fail
            go_ret2
            exact ⟨rfl, below_drewN HBr.out _⟩
/-- the error of Unwrap -/
def unwErr (c : Cnt) (m : Nat → Int) (n : Nat) (most : Int) : Int :=
  if cntB c = true then (if n ≤ 2000 then (if (List.range n).all (fun i => showB c (m i)) = true then (if 1000000000000000 < most then 6 else if most < 0 ∨ c.r / 2 ≤ c.f * most + 2 * faultS c then 31 else 0) else 6) else 2) else 30
def UnwAny (c : Cnt) (m : Nat → Int) (n : Nat) (most : Int) (w : World) (e : Ending) (w' : World) : Prop :=
  (unwErr c m n most ≠ 0 ∧ e = .returned (.tuple #[.slice none 0 0, .int .i64 (unwErr c m n most)]) ∨
   unwErr c m n most = 0 ∧ ∃ p cap, e = .returned (.tuple #[.slice p n cap, .int .i64 0]) ∧ FnIn w' (unwS c m) n p) ∧ Below w.heap.size w w'
theorem all_shown {c : Cnt} {m : Nat → Int} {n : Nat} : (List.range n).all (fun i => showB c (m i)) = true ↔ ∀ i, i < n → showB c (m i) = true := by
  simp [List.all_eq_true]
theorem some_not {c : Cnt} {m : Nat → Int} {n : Nat} (h : ¬ (List.range n).all (fun i => showB c (m i)) = true) : ∃ i, i < n ∧ showB c (m i) = false := by
  by_cases h' : ∃ i, i < n ∧ showB c (m i) = false
  · exact h'
  · refine absurd (all_shown.2 fun i hi => ?_) h
    cases hb : showB c (m i) with
    | true => rfl
    | false => exact absurd ⟨i, hi, hb⟩ h'
/-- Unwrap, whatever it is asked -/
theorem Unwrap_any (c : Cnt) (m : Nat → Int) (n : Nat) (p : Option Addr) (cap : Nat) (most : Int) (w : World) (hs : FnIn w m n p) :
    Calls Tryz.prog 13 #[cntVal c, .slice p n cap, .int .i64 most] w (UnwAny c m n most w) := by
  have no : ∀ r : Int, r ≠ 0 → unwErr c m n most = r → (Calls Tryz.prog 13 #[cntVal c, .slice p n cap, .int .i64 most] w fun e w' => e = .returned (.tuple #[.slice none 0 0, .int .i64 r]) ∧ Below w.heap.size w w') → Calls Tryz.prog 13 #[cntVal c, .slice p n cap, .int .i64 most] w (UnwAny c m n most w) := fun r hr he H =>
    H.mono fun e w' h => ⟨.inl (by rw [he]; exact ⟨hr, h.1⟩), h.2⟩
  by_cases hc : cntB c = true
  · by_cases hn : n ≤ 2000
    · by_cases ha : (List.range n).all (fun i => showB c (m i)) = true
      · by_cases hm : 1000000000000000 < most
        · exact no 6 (by decide) (by unfold unwErr; rw [if_pos hc, if_pos hn, if_pos ha, if_pos hm]) (Unwrap_err c m n p cap most 6 w hs (.inr ⟨hc, .inr ⟨hn, .inr ⟨all_shown.1 ha, .inl ⟨hm, rfl⟩⟩⟩⟩))
        · by_cases h0 : most < 0
          · exact no 31 (by decide) (by unfold unwErr; rw [if_pos hc, if_pos hn, if_pos ha, if_neg hm, if_pos (.inl h0)]) (Unwrap_err c m n p cap most 31 w hs (.inr ⟨hc, .inr ⟨hn, .inr ⟨all_shown.1 ha, .inr ⟨h0, rfl⟩⟩⟩⟩))
          · by_cases h1 : c.r / 2 ≤ c.f * most + 2 * faultS c
            · exact no 31 (by decide) (by unfold unwErr; rw [if_pos hc, if_pos hn, if_pos ha, if_neg hm, if_pos (.inr h1)]) (Unwrap_no c m n p cap most w (cntB_in hc) hn (all_shown.1 ha) (by omega) h1 hs)
            · have he : unwErr c m n most = 0 := by unfold unwErr; rw [if_pos hc, if_pos hn, if_pos ha, if_neg hm, if_neg (by omega)]
              refine (Unwrap_ok c m n p cap most w (cntB_in hc) hn (all_shown.1 ha) (by omega) (by omega) hs).mono fun e w' ⟨g, h1, h2, _, h3⟩ => ⟨.inr ⟨he, some ⟨g, 0, none⟩, n, h1, .inr ⟨g, 0, rfl, h2⟩⟩, h3⟩
      · exact no 6 (by decide) (by unfold unwErr; rw [if_pos hc, if_pos hn, if_neg ha]) (Unwrap_err c m n p cap most 6 w hs (.inr ⟨hc, .inr ⟨hn, .inl ⟨some_not ha, rfl⟩⟩⟩))
    · exact no 2 (by decide) (by unfold unwErr; rw [if_pos hc, if_neg hn]) (Unwrap_err c m n p cap most 2 w hs (.inr ⟨hc, .inl ⟨by omega, rfl⟩⟩))
  · exact no 30 (by decide) (by unfold unwErr; rw [if_neg hc]) (Unwrap_err c m n p cap most 30 w hs (.inl ⟨by simpa using hc, rfl⟩))
end Go.Proofs.YtlelamjbfjneiaaGreatDoor.Ct
