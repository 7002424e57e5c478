/- Layer 9 (calendar): the law CalendarGoes. (by gen_ij.py) -/
import Derived.Test.YtnbccbjhnlggaaaDoorIa
import Derived.Test.YtnbccbjhnlggaaaDoorIg
import Derived.Test.YtnbccbjhnlggaaaDoorIh
import Derived.Test.YtnbccbjhnlggaaaDoorDo
namespace Go.Proofs.YtnbccbjhnlggaaaDoor.Cal
open Go Go.RowKit
attribute [local go_sem] Oper.semAt_some
/-- what lies in memory behind the law's argument -/
structure GoBox (w X : World) (t0 t1 t2 t3 t4 t5 : Int) : Prop where
  c : X.cell? ⟨w.heap.size, 0, none⟩ = some (.int .u8 t0) ∧ X.cell? ⟨w.heap.size, 1, none⟩ = some (.int .u8 t1) ∧ X.cell? ⟨w.heap.size, 2, none⟩ = some (.int .u8 t2) ∧ X.cell? ⟨w.heap.size, 3, none⟩ = some (.int .u8 t3) ∧ X.cell? ⟨w.heap.size, 4, none⟩ = some (.int .u8 t4) ∧ X.cell? ⟨w.heap.size, 5, none⟩ = some (.int .u8 t5)
  mon : Mon X
  pow : Pow X
  bel : Below w.heap.size w X
theorem GoBox.below {w X Y : World} {t0 t1 t2 t3 t4 t5 : Int} (h : GoBox w X t0 t1 t2 t3 t4 t5) (hb : Below X.heap.size X Y) : GoBox w Y t0 t1 t2 t3 t4 t5 :=
  ⟨⟨cell_below hb h.c.1, cell_below hb h.c.2.1, cell_below hb h.c.2.2.1, cell_below hb h.c.2.2.2.1, cell_below hb h.c.2.2.2.2.1, cell_below hb h.c.2.2.2.2.2⟩, h.mon.below hb, h.pow.below hb, bt h.bel hb⟩
/-- .. and both dates -/
structure GoTwo (w X : World) (a1 a2 : Nat) (t0 t1 t2 t3 t4 t5 y k d h m s y' k' d' h' m' s' : Int) : Prop where
  g : GoBox w X t0 t1 t2 t3 t4 t5
  b1 : DBox X a1 y k d h m s
  b2 : DBox X a2 y' k' d' h' m' s'
theorem GoTwo.below {w X Y : World} {a1 a2 : Nat} {t0 t1 t2 t3 t4 t5 y k d h m s y' k' d' h' m' s' : Int} (g : GoTwo w X a1 a2 t0 t1 t2 t3 t4 t5 y k d h m s y' k' d' h' m' s') (hb : Below X.heap.size X Y) : GoTwo w Y a1 a2 t0 t1 t2 t3 t4 t5 y k d h m s y' k' d' h' m' s' :=
  ⟨g.g.below hb, g.b1.below hb, g.b2.below hb⟩
theorem GoTwo.new {w X : World} {t0 t1 t2 t3 t4 t5 : Int} (g : GoBox w X t0 t1 t2 t3 t4 t5) (y k d h m s y' k' d' h' m' s' : Int) :
    GoTwo w ((X.alloc (.cells #[.int .i64 y, .int .i64 k, .int .i64 d, .int .i64 h, .int .i64 m, .int .i64 s] 33)).alloc (.cells #[.int .i64 y', .int .i64 k', .int .i64 d', .int .i64 h', .int .i64 m', .int .i64 s'] 33)) X.heap.size (X.heap.size + 1) t0 t1 t2 t3 t4 t5 y k d h m s y' k' d' h' m' s' := by
  have b1 := below_alloc (Below.refl X.heap.size X) (.cells #[.int .i64 y, .int .i64 k, .int .i64 d, .int .i64 h, .int .i64 m, .int .i64 s] 33)
  have h1 := DBox.new X y k d h m s
  have e1 : (X.alloc (.cells #[.int .i64 y, .int .i64 k, .int .i64 d, .int .i64 h, .int .i64 m, .int .i64 s] 33)).heap.size = X.heap.size + 1 := by simp
  generalize X.alloc (.cells #[.int .i64 y, .int .i64 k, .int .i64 d, .int .i64 h, .int .i64 m, .int .i64 s] 33) = W1 at *
  have b2 := below_alloc (Below.refl W1.heap.size W1) (.cells #[.int .i64 y', .int .i64 k', .int .i64 d', .int .i64 h', .int .i64 m', .int .i64 s'] 33)
  have h2 := DBox.new W1 y' k' d' h' m' s'
  rw [e1] at h2
  exact ⟨(g.below b1).below b2, h1.below b2, h2⟩
set_option maxRecDepth 100000 in
set_option maxHeartbeats 8000000 in
theorem calendarGoes_any (nn mm t0 t1 t2 t3 t4 t5 : Int) (hnn : 0 ≤ nn ∧ nn ≤ 65535) (hmm : 0 ≤ mm ∧ mm ≤ 65535) (ht : (0 ≤ t0 ∧ t0 ≤ 255) ∧ (0 ≤ t1 ∧ t1 ≤ 255) ∧ (0 ≤ t2 ∧ t2 ≤ 255) ∧ (0 ≤ t3 ∧ t3 ≤ 255) ∧ (0 ≤ t4 ∧ t4 ≤ 255) ∧ (0 ≤ t5 ∧ t5 ≤ 255)) (w : World) (hw : Mon w) (hp : Pow w) :
    Calls Tryd.prog 3 #[.int .u16 nn, .int .u16 mm, .agg #[.int .u8 t0, .int .u8 t1, .int .u8 t2, .int .u8 t3, .int .u8 t4, .int .u8 t5]] w fun e w' => e = .returned (.bool true) ∧ Below w.heap.size w w' := by
  have A0 := below_alloc (Below.refl w.heap.size w) (.cells #[.int .u8 t0, .int .u8 t1, .int .u8 t2, .int .u8 t3, .int .u8 t4, .int .u8 t5] 23)
  have hT : (w.alloc (.cells #[.int .u8 t0, .int .u8 t1, .int .u8 t2, .int .u8 t3, .int .u8 t4, .int .u8 t5] 23)).cell? ⟨w.heap.size, 0, none⟩ = some (.int .u8 t0) ∧ (w.alloc (.cells #[.int .u8 t0, .int .u8 t1, .int .u8 t2, .int .u8 t3, .int .u8 t4, .int .u8 t5] 23)).cell? ⟨w.heap.size, 1, none⟩ = some (.int .u8 t1) ∧ (w.alloc (.cells #[.int .u8 t0, .int .u8 t1, .int .u8 t2, .int .u8 t3, .int .u8 t4, .int .u8 t5] 23)).cell? ⟨w.heap.size, 2, none⟩ = some (.int .u8 t2) ∧ (w.alloc (.cells #[.int .u8 t0, .int .u8 t1, .int .u8 t2, .int .u8 t3, .int .u8 t4, .int .u8 t5] 23)).cell? ⟨w.heap.size, 3, none⟩ = some (.int .u8 t3) ∧ (w.alloc (.cells #[.int .u8 t0, .int .u8 t1, .int .u8 t2, .int .u8 t3, .int .u8 t4, .int .u8 t5] 23)).cell? ⟨w.heap.size, 4, none⟩ = some (.int .u8 t4) ∧ (w.alloc (.cells #[.int .u8 t0, .int .u8 t1, .int .u8 t2, .int .u8 t3, .int .u8 t4, .int .u8 t5] 23)).cell? ⟨w.heap.size, 5, none⟩ = some (.int .u8 t5) := by simp
  have HG := Lib.hid (show GoBox w (w.alloc (.cells #[.int .u8 t0, .int .u8 t1, .int .u8 t2, .int .u8 t3, .int .u8 t4, .int .u8 t5] 23)) t0 t1 t2 t3 t4 t5 from ⟨hT, hw.below A0, hp.below A0, A0⟩)
  have HTB := Lib.hid ht
  clear hw hp hT ht A0
  have c1 : IntKind.i64.wrap nn = nn := IntWalk.i64_in _ (by omega)
  have c2 : IntKind.i64.wrap mm = mm := IntWalk.i64_in _ (by omega)
  obtain ⟨r1, hr1⟩ : ∃ r, nn % 46751 = r := ⟨_, rfl⟩
  obtain ⟨r2, hr2⟩ : ∃ r, mm % 46752 = r := ⟨_, rfl⟩
  have c3 : nn.tmod 46751 = r1 := by rw [Int.tmod_eq_emod_of_nonneg (by omega), hr1]
  have c4 : mm.tmod 46752 = r2 := by rw [Int.tmod_eq_emod_of_nonneg (by omega), hr2]
  obtain ⟨a, ha⟩ : ∃ a, 41317 + r1 = a := ⟨_, rfl⟩
  obtain ⟨b, hb⟩ : ∃ b, 41317 + r2 = b := ⟨_, rfl⟩
  have c5 : IntKind.i64.wrap (41317 + r1) = a := by rw [ha]; exact IntWalk.i64_in _ (by omega)
  have c6 : IntKind.i64.wrap (41317 + r2) = b := by rw [hb]; exact IntWalk.i64_in _ (by omega)
  have c7 : IntKind.i64.wrap (a + 1) = a + 1 := IntWalk.i64_in _ (by omega)
  obtain ⟨y, k, d, hca⟩ := civ_exists a (by omega)
  obtain ⟨p, q, r, hcn⟩ := civ_exists (a + 1) (by omega)
  obtain ⟨u, xk, z, hcb⟩ := civ_exists b (by omega)
  have HCN := Lib.hid (civ_next hca hcn)
  have HV1 := Lib.hid (fun X (hX : Mon X) => Civil_ok X hX hca)
  have HV2 := Lib.hid (fun X (hX : Mon X) => Civil_ok X hX hcn)
  have HV3 := Lib.hid (fun X (hX : Mon X) => Civil_ok X hX hcb)
  have HW1 := Lib.hid (fun X => Weekday_ok a X (by omega))
  have HW2 := Lib.hid (fun X => Weekday_ok (a + 1) X (by omega))
  have HK1 := Lib.hid (fun X => Week_ok a X (by omega))
  have HK2 := Lib.hid (fun X => Week_ok (a + 1) X (by omega))
  have HDY := Lib.hid (fun X (hX : Mon X) => Day_ok X hX hca.toIsDate)
  rw [← hca.n_] at HDY
  have HWN := Lib.hid (wd_next a)
  have HWS := Lib.hid (fun h => week_same (a := a) h)
  have HWX := Lib.hid (fun h => week_next (a := a) h)
  have hwb := wd_bd a
  have hwb2 := wd_bd (a + 1)
  have hb1 := hca.y1; have hb2 := hca.y2; have hb3 := hca.m2; have hb4 := hca.d1; have hb5 := hca.d2; have hb6 := dm_bd y k
  have hc1 := hcb.y1; have hc2 := hcb.y2; have hc3 := hcb.m2; have hc4 := hcb.d1; have hc5 := hcb.d2; have hc6 := dm_bd u xk
  have hwk := weekY_bd a (by omega)
  have HTT := Lib.hid hnn
  obtain ⟨yN, hyN⟩ : ∃ yN : Nat, y = (yN : Int) := ⟨y.toNat, by omega⟩
  obtain ⟨dN, hdN⟩ : ∃ dN : Nat, d = (dN : Int) := ⟨d.toNat, by omega⟩
  obtain ⟨uN, huN⟩ : ∃ uN : Nat, u = (uN : Int) := ⟨u.toNat, by omega⟩
  obtain ⟨zN, hzN⟩ : ∃ zN : Nat, z = (zN : Int) := ⟨z.toNat, by omega⟩
  have hwn : 0 ≤ weekN a ∧ weekN a ≤ 1000 := by have := weekN_bd a; omega
  subst hyN hdN huN hzN
  have HN := Lib.hid (show (1972 ≤ yN ∧ yN < 2100) ∧ k < 100 ∧ dN < 100 ∧ (1972 ≤ uN ∧ uN < 2100) ∧ xk < 100 ∧ zN < 100 by omega)
  clear hca hcn hcb hb1 hb2 hb3 hb4 hb5 hb6 hc1 hc2 hc3 hc4 hc5 hc6 hr1 hr2 ha hb
  generalize weekY a = wy at *
  generalize weekN a = wn at *
  generalize weekY (a + 1) = wy2 at *
  generalize weekN (a + 1) = wn2 at *
  obtain ⟨v, hv⟩ : ∃ v, wd a = v := ⟨_, rfl⟩
  obtain ⟨v2, hv2⟩ : ∃ v, wd (a + 1) = v := ⟨_, rfl⟩
  rw [hv] at HW1 HWN hwb
  rw [hv2] at HW2 HWN HWS HWX hwb2
  clear hv hv2
  have d1 : v.tmod 7 = v % 7 := Int.tmod_eq_emod_of_nonneg (by omega)
  have d2 : IntKind.i64.wrap (v % 7 + 1) = v2 := by rw [HWN.out]; exact IntWalk.i64_in _ (by omega)
  have d3 : IntKind.i64.wrap ((dN : Int) + 1) = (dN : Int) + 1 := IntWalk.i64_in _ (by have := HN.out; omega)
  have d4 : IntKind.i64.wrap ((k : Int) + 1) = (k : Int) + 1 := IntWalk.i64_in _ (by have := HN.out; omega)
  have d5 : IntKind.i64.wrap ((yN : Int) + 1) = (yN : Int) + 1 := IntWalk.i64_in _ (by have := HN.out; omega)
  have d6 : IntKind.i64.wrap (wy + 1) = wy + 1 := IntWalk.i64_in _ (by omega)
  have d7 : IntKind.i64.wrap (wn + 1) = wn + 1 := IntWalk.i64_in _ (by omega)
  go_enter Tryd.func3, Tryd.ntmps3
  go_upto_region 1 with fail
  generalize w.alloc (.cells #[.int .u8 t0, .int .u8 t1, .int .u8 t2, .int .u8 t3, .int .u8 t4, .int .u8 t5] 23) = W0 at *

  go_upto_region 3 with (go_at_call 7; refine (HV1.out _ HG.out.mon).mono ?_; rintro e w' ⟨rfl, rfl⟩)
  go_upto_region 4 with (go_at_call 7; refine (HV2.out _ HG.out.mon).mono ?_; rintro e w' ⟨rfl, rfl⟩)
  go_upto_region 5 with (go_at_call 8; refine (HW1.out _).mono ?_; rintro e w' ⟨rfl, rfl⟩)
  go_upto_region 6 with (go_at_call 8; refine (HW2.out _).mono ?_; rintro e w' ⟨rfl, rfl⟩)
  go_upto_region 9 with (go_at_call 9; refine (HDY.out _ HG.out.mon).mono ?_; rintro e w' ⟨rfl, rfl⟩)
  go_upto_region 11 with fail
  go_cut [151] from 102 to 151 (fun s151 wx => s151 = .bool false ∧ Hid (GoBox w wx t0 t1 t2 t3 t4 t5))
  case first =>
    rcases HCN.out with ⟨rfl, rfl, rfl⟩ | ⟨rfl, rfl, rfl⟩ | ⟨rfl, rfl, rfl, rfl⟩
    · go_wp2_with fail
      go_meet
      exact ⟨rfl, HG⟩
    · have e1 : (((k + 1 : Nat) : Int) == (k : Int)) = false := by simp; omega
      have e2 : ((k + 1 : Nat) : Int) = (k : Int) + 1 := by omega
      have e3 : ¬ ((k + 1 : Nat) : Int) = (k : Int) := by omega
      go_wp2_with fail
      go_meet
      exact ⟨rfl, HG⟩
    · have e1 : ((yN : Int) + 1 == (yN : Int)) = false := by simp; omega
      have e3 : ¬ (yN : Int) + 1 = (yN : Int) := by omega
      go_wp2_with fail
      go_meet
      exact ⟨rfl, HG⟩
  case rest =>
    clear HG
    obtain ⟨rfl, HG⟩ := hcut
    clear HCN
    go_upto_region 14 with (go_at_call 10; refine (HK1.out _).mono ?_; rintro e w' ⟨rfl, rfl⟩)
    go_upto_region 15 with (go_at_call 10; refine (HK2.out _).mono ?_; rintro e w' ⟨rfl, rfl⟩)
    go_cut [215] from 165 to 215 (fun s215 wx => s215 = .bool false ∧ Hid (GoBox w wx t0 t1 t2 t3 t4 t5))
    case first =>
      by_cases hw1 : 1 < v2
      · obtain ⟨rfl, rfl⟩ := HWS.out hw1
        have e1 : (v2 == 1) = false := by simp; omega
        have e2 : ¬ v2 = 1 := by omega
        go_wp2_with fail
        go_meet
        exact ⟨rfl, HG⟩
      · have e0 : v2 = 1 := by omega
        rcases HWX.out e0 with ⟨rfl, rfl⟩ | ⟨rfl, rfl, h52⟩
        · subst e0
          go_wp2_with fail
          go_meet
          exact ⟨rfl, HG⟩
        · subst e0
          have e1 : (wy + 1 == wy) = false := by simp; omega
          have e3 : ¬ wy + 1 = wy := by omega
          go_wp2_with fail
          go_meet
          exact ⟨rfl, HG⟩
    case rest =>
      clear HG
      obtain ⟨rfl, HG⟩ := hcut
      clear HWS HWX HWN HK1 HK2 HW1 HW2 HV1 HV2 HDY d1 d2 d3 d4 d5 d6 d7 c1 c2 c3 c4 c5 c6 c7 hwb hwb2 hwk hwn
      have HTN := HTB.out
      obtain ⟨h1, hh1⟩ : ∃ h1 : Nat, t0 % 24 = (h1 : Int) := ⟨(t0 % 24).toNat, by omega⟩
      obtain ⟨m1, hm1⟩ : ∃ m1 : Nat, t1 % 60 = (m1 : Int) := ⟨(t1 % 60).toNat, by omega⟩
      obtain ⟨s1, hs1⟩ : ∃ s1 : Nat, t2 % 61 = (s1 : Int) := ⟨(t2 % 61).toNat, by omega⟩
      obtain ⟨h2, hh2⟩ : ∃ h2 : Nat, t3 % 24 = (h2 : Int) := ⟨(t3 % 24).toNat, by omega⟩
      obtain ⟨m2, hm2⟩ : ∃ m2 : Nat, t4 % 60 = (m2 : Int) := ⟨(t4 % 60).toNat, by omega⟩
      obtain ⟨s2, hs2⟩ : ∃ s2 : Nat, t5 % 61 = (s2 : Int) := ⟨(t5 % 61).toNat, by omega⟩
      have g1 : t0.tmod 24 = (h1 : Int) := by rw [Int.tmod_eq_emod_of_nonneg (by omega), hh1]
      have g2 : t1.tmod 60 = (m1 : Int) := by rw [Int.tmod_eq_emod_of_nonneg (by omega), hm1]
      have g3 : t2.tmod 61 = (s1 : Int) := by rw [Int.tmod_eq_emod_of_nonneg (by omega), hs1]
      have g4 : t3.tmod 24 = (h2 : Int) := by rw [Int.tmod_eq_emod_of_nonneg (by omega), hh2]
      have g5 : t4.tmod 60 = (m2 : Int) := by rw [Int.tmod_eq_emod_of_nonneg (by omega), hm2]
      have g6 : t5.tmod 61 = (s2 : Int) := by rw [Int.tmod_eq_emod_of_nonneg (by omega), hs2]
      have HM := Lib.hid (show h1 < 100 ∧ m1 < 100 ∧ s1 < 100 ∧ h2 < 100 ∧ m2 < 100 ∧ s2 < 100 by omega)
      have i1 : IntKind.i64.wrap (h1 : Int) = (h1 : Int) := IntWalk.i64_in _ (by omega)
      have i2 : IntKind.i64.wrap (m1 : Int) = (m1 : Int) := IntWalk.i64_in _ (by omega)
      have i3 : IntKind.i64.wrap (s1 : Int) = (s1 : Int) := IntWalk.i64_in _ (by omega)
      have i4 : IntKind.i64.wrap (h2 : Int) = (h2 : Int) := IntWalk.i64_in _ (by omega)
      have i5 : IntKind.i64.wrap (m2 : Int) = (m2 : Int) := IntWalk.i64_in _ (by omega)
      have i6 : IntKind.i64.wrap (s2 : Int) = (s2 : Int) := IntWalk.i64_in _ (by omega)
      go_upto_region 18 with (go_at_call 7; refine (HV3.out _ HG.out.mon).mono ?_; rintro e w' ⟨rfl, rfl⟩)
      obtain ⟨x0, x1, x2, x3, x4, x5⟩ := HG.out.c
      have zx := cell_lt x0
      go_upto_region 20 with fail
      have HTW := Lib.hid (GoTwo.new HG.out (yN : Int) (k : Int) (dN : Int) (h1 : Int) (m1 : Int) (s1 : Int) (uN : Int) (xk : Int) (zN : Int) (h2 : Int) (m2 : Int) (s2 : Int))
      generalize (wc.alloc (.cells #[.int .i64 (yN : Int), .int .i64 (k : Int), .int .i64 (dN : Int), .int .i64 (h1 : Int), .int .i64 (m1 : Int), .int .i64 (s1 : Int)] 33)).alloc (.cells #[.int .i64 (uN : Int), .int .i64 (xk : Int), .int .i64 (zN : Int), .int .i64 (h2 : Int), .int .i64 (m2 : Int), .int .i64 (s2 : Int)] 33) = WA at *
      obtain ⟨a1, ha1⟩ : ∃ q, wc.heap.size = q := ⟨_, rfl⟩
      rw [ha1] at HTW ⊢
      clear ha1 x0 x1 x2 x3 x4 x5 zx HG HTN g1 g2 g3 g4 g5 g6 i1 i2 i3 i4 i5 i6 hh1 hm1 hs1 hh2 hm2 hs2 HV3
      obtain ⟨LB, hLB⟩ : ∃ LB, decide (lexF (six (yN : Int) (k : Int) (dN : Int) (h1 : Int) (m1 : Int) (s1 : Int)) (six (uN : Int) (xk : Int) (zN : Int) (h2 : Int) (m2 : Int) (s2 : Int)) 0 6 < 0) = LB := ⟨_, rfl⟩
      have HBE := Lib.hid (fun X => lbefore_any (yN : Int) (k : Int) (dN : Int) (h1 : Int) (m1 : Int) (s1 : Int) (uN : Int) (xk : Int) (zN : Int) (h2 : Int) (m2 : Int) (s2 : Int) X)
      rw [hLB] at HBE
      have HFL := Lib.hid (fmt_less (y := yN) (k := k) (d := dN) (h := h1) (m := m1) (s := s1) (y' := uN) (k' := xk) (d' := zN) (h' := h2) (m' := m2) (s' := s2) (by have := HN.out; omega) (by have := HN.out; omega) (by have := HN.out; omega) HM.out.1 HM.out.2.1 HM.out.2.2.1 (by have := HN.out; omega) (by have := HN.out; omega) (by have := HN.out; omega) HM.out.2.2.2.1 HM.out.2.2.2.2.1 HM.out.2.2.2.2.2)
      rw [hLB] at HFL
      clear hLB
      have HF1 := Lib.hid (fun X (hX : Pow X) => Format_any yN k dN h1 m1 s1 (by have := HN.out; omega) HN.out.2.1 HN.out.2.2.1 HM.out.1 HM.out.2.1 HM.out.2.2.1 X hX)
      have HF2 := Lib.hid (fun X (hX : Pow X) => Format_any uN xk zN h2 m2 s2 (by have := HN.out; omega) HN.out.2.2.2.2.1 HN.out.2.2.2.2.2 HM.out.2.2.2.1 HM.out.2.2.2.2.1 HM.out.2.2.2.2.2 X hX)
      have HPA := Lib.hid (fun S (hS : S.data.toList = fmtL yN k dN h1 m1 s1) X => Parse_any S yN k dN h1 m1 s1 HN.out.1.1 HN.out.1.2 HN.out.2.1 HN.out.2.2.1 HM.out.1 HM.out.2.1 HM.out.2.2.1 hS X)
      generalize (yN : Int) = f0 at *
      generalize (k : Int) = f1 at *
      generalize (dN : Int) = f2 at *
      generalize (h1 : Int) = f3 at *
      generalize (m1 : Int) = f4 at *
      generalize (s1 : Int) = f5 at *
      generalize (uN : Int) = e0 at *
      generalize (xk : Int) = e1 at *
      generalize (zN : Int) = e2 at *
      generalize (h2 : Int) = e3 at *
      generalize (m2 : Int) = e4 at *
      generalize (s2 : Int) = e5 at *
      obtain ⟨x0, x1, x2, x3, x4, x5⟩ := HTW.out.b1
      have zx := cell_lt x0
      go_upto_region 21 with (first | (go_at_call 12; refine (HF1.out _ HTW.out.g.pow).mono ?_; rintro e v1 ⟨S0, rfl, hS0, hb⟩; have HT1 := Lib.hid (HTW.out.below hb); have HS0 := Lib.hid hS0; clear hb hS0) | (go_at_call 11; refine (HPA.out _ HS0.out _).mono ?_; rintro e v2 ⟨rfl, hb⟩; have HT2 := Lib.hid (HT1.out.below hb); clear hb))
      clear x0 x1 x2 x3 x4 x5 zx HTW HT1
      have hbx := below_alloc (Below.refl v2.heap.size v2) (.cells #[.int .i64 f0, .int .i64 f1, .int .i64 f2, .int .i64 f3, .int .i64 f4, .int .i64 f5] 33)
      have BD3 := Lib.hid (DBox.new v2 f0 f1 f2 f3 f4 f5)
      have HT3 := Lib.hid (HT2.out.below hbx)
      clear hbx HT2
      generalize v2.alloc (.cells #[.int .i64 f0, .int .i64 f1, .int .i64 f2, .int .i64 f3, .int .i64 f4, .int .i64 f5] 33) = WB at *
      obtain ⟨a3, ha3⟩ : ∃ q, v2.heap.size = q := ⟨_, rfl⟩
      rw [ha3] at BD3 ⊢
      clear ha3
      obtain ⟨x0, x1, x2, x3, x4, x5⟩ := HT3.out.b1
      obtain ⟨y0, y1, y2, y3, y4, y5⟩ := HT3.out.b2
      obtain ⟨z0, z1, z2, z3, z4, z5⟩ := BD3.out
      have zx := cell_lt x0
      have zy := cell_lt y0
      have zz := cell_lt z0
      have HBB := Lib.hid (fun X (hX : Below WB.heap.size WB X) => Calls.bel hX (HBE.out X))
      have HFA := Lib.hid (fun X (hX : Below WB.heap.size WB X) => (HF1.out X (HT3.out.g.pow.below hX)).mono (fun e w' (q : ∃ S, e = .returned (.string S) ∧ S.data.toList = fmtL yN k dN h1 m1 s1 ∧ Below X.heap.size X w') => (q.imp fun S z => ⟨z.1, z.2.1, bt hX z.2.2⟩ : ∃ S, e = .returned (.string S) ∧ S.data.toList = fmtL yN k dN h1 m1 s1 ∧ Below WB.heap.size WB w')))
      have HFB := Lib.hid (fun X (hX : Below WB.heap.size WB X) => (HF2.out X (HT3.out.g.pow.below hX)).mono (fun e w' (q : ∃ S, e = .returned (.string S) ∧ S.data.toList = fmtL uN xk zN h2 m2 s2 ∧ Below X.heap.size X w') => (q.imp fun S z => ⟨z.1, z.2.1, bt hX z.2.2⟩ : ∃ S, e = .returned (.string S) ∧ S.data.toList = fmtL uN xk zN h2 m2 s2 ∧ Below WB.heap.size WB w')))
      have HAW := Lib.hid (fun X (hX : Below WB.heap.size WB X) => Calls.bel hX (awake_any X (HT3.out.g.mon.below hX)))
      have HK := Lib.hid (show ∀ X, Below WB.heap.size WB X → (fun w' => Below WB.heap.size WB w' ∧ w'.cell? ⟨a1, 0, none⟩ = some (.int .i64 f0) ∧ w'.cell? ⟨a1, 1, none⟩ = some (.int .i64 f1) ∧ w'.cell? ⟨a1, 2, none⟩ = some (.int .i64 f2) ∧ w'.cell? ⟨a1, 3, none⟩ = some (.int .i64 f3) ∧ w'.cell? ⟨a1, 4, none⟩ = some (.int .i64 f4) ∧ w'.cell? ⟨a1, 5, none⟩ = some (.int .i64 f5) ∧ w'.cell? ⟨(a1 + 1), 0, none⟩ = some (.int .i64 e0) ∧ w'.cell? ⟨(a1 + 1), 1, none⟩ = some (.int .i64 e1) ∧ w'.cell? ⟨(a1 + 1), 2, none⟩ = some (.int .i64 e2) ∧ w'.cell? ⟨(a1 + 1), 3, none⟩ = some (.int .i64 e3) ∧ w'.cell? ⟨(a1 + 1), 4, none⟩ = some (.int .i64 e4) ∧ w'.cell? ⟨(a1 + 1), 5, none⟩ = some (.int .i64 e5) ∧ w'.cell? ⟨a3, 0, none⟩ = some (.int .i64 f0) ∧ w'.cell? ⟨a3, 1, none⟩ = some (.int .i64 f1) ∧ w'.cell? ⟨a3, 2, none⟩ = some (.int .i64 f2) ∧ w'.cell? ⟨a3, 3, none⟩ = some (.int .i64 f3) ∧ w'.cell? ⟨a3, 4, none⟩ = some (.int .i64 f4) ∧ w'.cell? ⟨a3, 5, none⟩ = some (.int .i64 f5)) X from fun X h => ⟨h, cell_below h x0, cell_below h x1, cell_below h x2, cell_below h x3, cell_below h x4, cell_below h x5, cell_below h y0, cell_below h y1, cell_below h y2, cell_below h y3, cell_below h y4, cell_below h y5, cell_below h z0, cell_below h z1, cell_below h z2, cell_below h z3, cell_below h z4, cell_below h z5⟩)
      clear x0 x1 x2 x3 x4 x5 y0 y1 y2 y3 y4 y5 z0 z1 z2 z3 z4 z5 zx zy zz
      refine wp_region_held_drew (S := (fun w' => Below WB.heap.size WB w' ∧ w'.cell? ⟨a1, 0, none⟩ = some (.int .i64 f0) ∧ w'.cell? ⟨a1, 1, none⟩ = some (.int .i64 f1) ∧ w'.cell? ⟨a1, 2, none⟩ = some (.int .i64 f2) ∧ w'.cell? ⟨a1, 3, none⟩ = some (.int .i64 f3) ∧ w'.cell? ⟨a1, 4, none⟩ = some (.int .i64 f4) ∧ w'.cell? ⟨a1, 5, none⟩ = some (.int .i64 f5) ∧ w'.cell? ⟨(a1 + 1), 0, none⟩ = some (.int .i64 e0) ∧ w'.cell? ⟨(a1 + 1), 1, none⟩ = some (.int .i64 e1) ∧ w'.cell? ⟨(a1 + 1), 2, none⟩ = some (.int .i64 e2) ∧ w'.cell? ⟨(a1 + 1), 3, none⟩ = some (.int .i64 e3) ∧ w'.cell? ⟨(a1 + 1), 4, none⟩ = some (.int .i64 e4) ∧ w'.cell? ⟨(a1 + 1), 5, none⟩ = some (.int .i64 e5) ∧ w'.cell? ⟨a3, 0, none⟩ = some (.int .i64 f0) ∧ w'.cell? ⟨a3, 1, none⟩ = some (.int .i64 f1) ∧ w'.cell? ⟨a3, 2, none⟩ = some (.int .i64 f2) ∧ w'.cell? ⟨a3, 3, none⟩ = some (.int .i64 f3) ∧ w'.cell? ⟨a3, 4, none⟩ = some (.int .i64 f4) ∧ w'.cell? ⟨a3, 5, none⟩ = some (.int .i64 f5))) (by kernel_rfl) (HK.out _ (Below.drew (Below.refl _ _))) (fun hHeld => ?_)
      refine wpAnyH_take (i := 0) (v := ?_) rfl (by kernel_rfl) (by kernel_rfl) (by kernel_rfl) (fun _ _ _ h => h) (Or.inl ⟨by rfl, ?_⟩) (by assumption) ?_
      rotate_left
      · intro w hSw; (try dsimp only at hSw); go_simp; try with_reducible rfl
      simp only [Act.put, List.getElem_toArray, List.getElem_cons_zero, List.setIfInBounds_toArray, List.set_cons_zero, List.set_cons_succ]
      refine wpAnyH_take (i := 1) (v := ?_) rfl (by kernel_rfl) (by kernel_rfl) (by kernel_rfl) (fun _ _ _ h => h) (Or.inl ⟨by rfl, ?_⟩) (by assumption) ?_
      rotate_left
      · intro w hSw; (try dsimp only at hSw); go_simp; try with_reducible rfl
      simp only [Act.put, List.getElem_toArray, List.getElem_cons_succ, List.getElem_cons_zero, List.setIfInBounds_toArray, List.set_cons_zero, List.set_cons_succ]
      refine wpAnyH_take (i := 2) (v := ?_) rfl (by kernel_rfl) (by kernel_rfl) (by kernel_rfl) (fun _ _ _ h => h) (Or.inl ⟨by rfl, ?_⟩) (by assumption) ?_
      rotate_left
      · intro w hSw; (try dsimp only at hSw); go_simp; try with_reducible rfl
      simp only [Act.put, List.getElem_toArray, List.getElem_cons_succ, List.getElem_cons_zero, List.setIfInBounds_toArray, List.set_cons_zero, List.set_cons_succ]
      refine wpAnyH_take (i := 3) (v := ?_) rfl (by kernel_rfl) (by kernel_rfl) (by kernel_rfl) (fun _ _ _ h => h) (Or.inl ⟨by rfl, ?_⟩) (by assumption) ?_
      rotate_left
      · intro w hSw; (try dsimp only at hSw); go_simp; try with_reducible rfl
      simp only [Act.put, List.getElem_toArray, List.getElem_cons_succ, List.getElem_cons_zero, List.setIfInBounds_toArray, List.set_cons_zero, List.set_cons_succ]
      refine wpAnyH_take (i := 4) (v := ?_) rfl (by kernel_rfl) (by kernel_rfl) (by kernel_rfl) (fun _ _ _ h => h) (Or.inl ⟨by rfl, ?_⟩) (by assumption) ?_
      rotate_left
      · intro w hSw; (try dsimp only at hSw); go_simp; try with_reducible rfl
      simp only [Act.put, List.getElem_toArray, List.getElem_cons_succ, List.getElem_cons_zero, List.setIfInBounds_toArray, List.set_cons_zero, List.set_cons_succ]
      refine wpAnyH_take (i := 5) (v := ?_) rfl (by kernel_rfl) (by kernel_rfl) (by kernel_rfl) (fun _ _ _ h => h) (Or.inl ⟨by rfl, ?_⟩) (by assumption) ?_
      rotate_left
      · intro w hSw; (try dsimp only at hSw); go_simp; try with_reducible rfl
      simp only [Act.put, List.getElem_toArray, List.getElem_cons_succ, List.getElem_cons_zero, List.setIfInBounds_toArray, List.set_cons_zero, List.set_cons_succ]
      refine wpAnyH_take (i := 6) (v := ?_) rfl (by kernel_rfl) (by kernel_rfl) (by kernel_rfl) (fun _ _ _ h => h) (Or.inl ⟨by rfl, ?_⟩) (by assumption) ?_
      rotate_left
      · intro w hSw; (try dsimp only at hSw); go_simp; try with_reducible rfl
      simp only [Act.put, List.getElem_toArray, List.getElem_cons_succ, List.getElem_cons_zero, List.setIfInBounds_toArray, List.set_cons_zero, List.set_cons_succ]
      refine wpAnyH_take (i := 7) (v := ?_) rfl (by kernel_rfl) (by kernel_rfl) (by kernel_rfl) (fun _ _ _ h => h) (Or.inl ⟨by rfl, ?_⟩) (by assumption) ?_
      rotate_left
      · intro w hSw; (try dsimp only at hSw); go_simp; try with_reducible rfl
      simp only [Act.put, List.getElem_toArray, List.getElem_cons_succ, List.getElem_cons_zero, List.setIfInBounds_toArray, List.set_cons_zero, List.set_cons_succ]
      refine wpAnyH_take (i := 8) (v := ?_) rfl (by kernel_rfl) (by kernel_rfl) (by kernel_rfl) (fun _ _ _ h => h) (Or.inl ⟨by rfl, ?_⟩) (by assumption) ?_
      rotate_left
      · intro w hSw; (try dsimp only at hSw); go_simp; try with_reducible rfl
      simp only [Act.put, List.getElem_toArray, List.getElem_cons_succ, List.getElem_cons_zero, List.setIfInBounds_toArray, List.set_cons_zero, List.set_cons_succ]
      refine wpAnyH_take (i := 9) (v := ?_) rfl (by kernel_rfl) (by kernel_rfl) (by kernel_rfl) (fun _ _ _ h => h) (Or.inl ⟨by rfl, ?_⟩) (by assumption) ?_
      rotate_left
      · intro w hSw; (try dsimp only at hSw); go_simp; try with_reducible rfl
      simp only [Act.put, List.getElem_toArray, List.getElem_cons_succ, List.getElem_cons_zero, List.setIfInBounds_toArray, List.set_cons_zero, List.set_cons_succ]
      refine wpAnyH_take (i := 10) (v := ?_) rfl (by kernel_rfl) (by kernel_rfl) (by kernel_rfl) (fun _ _ _ h => h) (Or.inl ⟨by rfl, ?_⟩) (by assumption) ?_
      rotate_left
      · intro w hSw; (try dsimp only at hSw); go_simp; try with_reducible rfl
      simp only [Act.put, List.getElem_toArray, List.getElem_cons_succ, List.getElem_cons_zero, List.setIfInBounds_toArray, List.set_cons_zero, List.set_cons_succ]
      refine wpAnyH_take (i := 11) (v := ?_) rfl (by kernel_rfl) (by kernel_rfl) (by kernel_rfl) (fun _ _ _ h => h) (Or.inl ⟨by rfl, ?_⟩) (by assumption) ?_
      rotate_left
      · intro w hSw; (try dsimp only at hSw); go_simp; try with_reducible rfl
      simp only [Act.put, List.getElem_toArray, List.getElem_cons_succ, List.getElem_cons_zero, List.setIfInBounds_toArray, List.set_cons_zero, List.set_cons_succ]
      refine wpAnyH_take (i := 12) (v := ?_) rfl (by kernel_rfl) (by kernel_rfl) (by kernel_rfl) (fun _ _ _ h => h) (Or.inl ⟨by rfl, ?_⟩) (by assumption) ?_
      rotate_left
      · intro w hSw; (try dsimp only at hSw); go_simp; try with_reducible rfl
      simp only [Act.put, List.getElem_toArray, List.getElem_cons_succ, List.getElem_cons_zero, List.setIfInBounds_toArray, List.set_cons_zero, List.set_cons_succ]
      refine wpAnyH_take (i := 13) (v := ?_) rfl (by kernel_rfl) (by kernel_rfl) (by kernel_rfl) (fun _ _ _ h => h) (Or.inl ⟨by rfl, ?_⟩) (by assumption) ?_
      rotate_left
      · intro w hSw; (try dsimp only at hSw); go_simp; try with_reducible rfl
      simp only [Act.put, List.getElem_toArray, List.getElem_cons_succ, List.getElem_cons_zero, List.setIfInBounds_toArray, List.set_cons_zero, List.set_cons_succ]
      refine wpAnyH_take (i := 15) (v := ?_) rfl (by kernel_rfl) (by kernel_rfl) (by kernel_rfl) (fun _ _ _ h => h) (Or.inl ⟨by rfl, ?_⟩) (by assumption) ?_
      rotate_left
      · intro w hSw; (try dsimp only at hSw); go_simp; try with_reducible rfl
      simp only [Act.put, List.getElem_toArray, List.getElem_cons_succ, List.getElem_cons_zero, List.setIfInBounds_toArray, List.set_cons_zero, List.set_cons_succ]
      refine wpAnyH_take (i := 17) (v := ?_) rfl (by kernel_rfl) (by kernel_rfl) (by kernel_rfl) (fun _ _ _ h => h) (Or.inl ⟨by rfl, ?_⟩) (by assumption) ?_
      rotate_left
      · intro w hSw; (try dsimp only at hSw); go_simp; try with_reducible rfl
      simp only [Act.put, List.getElem_toArray, List.getElem_cons_succ, List.getElem_cons_zero, List.setIfInBounds_toArray, List.set_cons_zero, List.set_cons_succ]
      refine wpAnyH_ready (rs := [14]) (by kernel_rfl) (by simp) ?_
      refine AllReadyH.cons rfl (fun K hK => ?_) AllReadyH.nil
      go_simp
      go_at_call 13
      refine (HBB.out _ (Below.drew (Below.refl _ _))).mono ?_
      rintro e wa ⟨rfl, hbwa⟩
      go_wp2_with fail
      refine hK.out _ _ (HK.out _ hbwa) (fun hHeldwa => ?_)
      clear hK K
      refine wpAnyH_ready (rs := [16]) (by kernel_rfl) (by simp) ?_
      refine AllReadyH.cons rfl (fun K hK => ?_) AllReadyH.nil
      go_simp
      go_at_call 12
      refine (HFA.out _ hbwa).mono ?_
      rintro e wb ⟨S1, rfl, hS1, hbwb⟩
      go_wp2_with fail
      refine hK.out _ _ (HK.out _ hbwb) (fun hHeldwb => ?_)
      clear hK K
      refine wpAnyH_ready (rs := [18]) (by kernel_rfl) (by simp) ?_
      refine AllReadyH.cons rfl (fun K hK => ?_) AllReadyH.nil
      go_simp
      go_at_call 12
      refine (HFB.out _ hbwb).mono ?_
      rintro e wc9 ⟨S2, rfl, hS2, hbwc9⟩
      go_wp2_with fail
      refine hK.out _ _ (HK.out _ hbwc9) (fun hHeldwc9 => ?_)
      clear hK K
      have hless : Op.bytesLess S1.toList S2.toList = LB := by rw [Lib.toList_data, Lib.toList_data, hS1, hS2]; exact HFL.out
      refine wpAnyH_take (i := 19) (v := ?_) rfl (by kernel_rfl) (by kernel_rfl) (by kernel_rfl) (fun _ _ _ h => h) (Or.inl ⟨by rfl, ?_⟩) (by assumption) ?_
      rotate_left
      · intro w hSw; (try dsimp only at hSw); go_simp; try with_reducible rfl
      simp only [Act.put, List.getElem_toArray, List.getElem_cons_succ, List.getElem_cons_zero, List.setIfInBounds_toArray, List.set_cons_zero, List.set_cons_succ]
      refine wpAnyH_take (i := 20) (v := ?_) rfl (by kernel_rfl) (by kernel_rfl) (by kernel_rfl) (fun _ _ _ h => h) (Or.inl ⟨by rfl, ?_⟩) (by assumption) ?_
      rotate_left
      · intro w hSw; (try dsimp only at hSw); go_simp; try with_reducible rfl
      simp only [Act.put, List.getElem_toArray, List.getElem_cons_succ, List.getElem_cons_zero, List.setIfInBounds_toArray, List.set_cons_zero, List.set_cons_succ]
      refine wpAnyH_take (i := 21) (v := ?_) rfl (by kernel_rfl) (by kernel_rfl) (by kernel_rfl) (fun _ _ _ h => h) (Or.inl ⟨by rfl, ?_⟩) (by assumption) ?_
      rotate_left
      · intro w hSw; (try dsimp only at hSw); go_simp; try with_reducible rfl
      simp only [Act.put, List.getElem_toArray, List.getElem_cons_succ, List.getElem_cons_zero, List.setIfInBounds_toArray, List.set_cons_zero, List.set_cons_succ]
      refine wpAnyH_take (i := 22) (v := ?_) rfl (by kernel_rfl) (by kernel_rfl) (by kernel_rfl) (fun _ _ _ h => h) (Or.inl ⟨by rfl, ?_⟩) (by assumption) ?_
      rotate_left
      · intro w hSw; (try dsimp only at hSw); go_simp; try with_reducible rfl
      simp only [Act.put, List.getElem_toArray, List.getElem_cons_succ, List.getElem_cons_zero, List.setIfInBounds_toArray, List.set_cons_zero, List.set_cons_succ]
      refine wpAnyH_ready (rs := [23]) (by kernel_rfl) (by simp) ?_
      refine AllReadyH.cons rfl (fun K hK => ?_) AllReadyH.nil
      go_simp
      go_at_call 14
      refine (HAW.out _ hbwc9).mono ?_
      rintro e wd ⟨rfl, hbwd⟩
      go_wp2_with fail
      refine hK.out _ _ (HK.out _ hbwd) (fun hHeldwd => ?_)
      clear hK K
      refine wpAnyH_take (i := 24) (v := ?_) rfl (by kernel_rfl) (by kernel_rfl) (by kernel_rfl) (fun _ _ _ h => h) (Or.inl ⟨by rfl, ?_⟩) (by assumption) ?_
      rotate_left
      · intro w hSw; (try dsimp only at hSw); go_simp; try with_reducible rfl
      simp only [Act.put, List.getElem_toArray, List.getElem_cons_succ, List.getElem_cons_zero, List.setIfInBounds_toArray, List.set_cons_zero, List.set_cons_succ]
      refine wpAnyH_take (i := 25) (v := ?_) rfl (by kernel_rfl) (by kernel_rfl) (by kernel_rfl) (fun _ _ _ h => h) (Or.inl ⟨by rfl, ?_⟩) (by assumption) ?_
      rotate_left
      · intro w hSw; (try dsimp only at hSw); go_simp; try with_reducible rfl
      simp only [Act.put, List.getElem_toArray, List.getElem_cons_succ, List.getElem_cons_zero, List.setIfInBounds_toArray, List.set_cons_zero, List.set_cons_succ]
      refine wpAnyH_done (by kernel_rfl) ?_ _
      have HB9 := Lib.hid hbwd
      go_wp2_with fail
      go_ret
      exact ⟨rfl, bt HT3.out.g.bel HB9.out⟩
end Go.Proofs.YtnbccbjhnlggaaaDoor.Cal
