/- The law CounterShows. -/
import Derived.Test.YtlelamjbfjneiaaSc
import Derived.Test.YtlelamjbfjneiaaSe
import Derived.Test.YtlelamjbfjneiaaAk
namespace Go.Proofs.Ytlelamjbfjneiaa.Ct
open Go Go.RowKit Go.Shelf
attribute [local go_sem] Oper.semAt_some
/-- the boxes of the law -/
structure ShC (X : World) (b : Nat) (c : Cnt) (lo hi : Int) : Prop where
  a : CBox X b c
  s : SpBox X (b + 1) lo hi
  z : CBox X (b + 1 + 1) c
theorem ShC.below {X Y : World} {b : Nat} {c : Cnt} {lo hi : Int} (h : ShC X b c lo hi) (hb : Below X.heap.size X Y) : ShC Y b c lo hi := ⟨h.a.below hb, h.s.below hb, h.z.below hb⟩
def shW (w : World) (c : Cnt) (lo hi : Int) : World := ((w.alloc (rcObj c)).alloc (.cells #[.int .i64 lo, .int .i64 hi] 43)).alloc (cntObj c)
theorem sh_new (w : World) (c : Cnt) (lo hi : Int) : ShC (shW w c lo hi) w.heap.size c lo hi ∧ Below w.heap.size w (shW w c lo hi) := by
  have e1 : (w.alloc (rcObj c)).heap.size = w.heap.size + 1 := by simp
  have e2 : ∀ v, ((w.alloc (rcObj c)).alloc v).heap.size = w.heap.size + 1 + 1 := by simp
  have b1 := below_alloc (Below.refl (w.alloc (rcObj c)).heap.size _) (.cells #[.int .i64 lo, .int .i64 hi] 43)
  have b2 := fun v => below_alloc (Below.refl ((w.alloc (rcObj c)).alloc v).heap.size _) (cntObj c)
  have s1 := SpBox.new (w.alloc (rcObj c)) lo hi 43
  have s2 := fun v => CBox.new ((w.alloc (rcObj c)).alloc v) c
  rw [e1] at s1
  simp only [e2] at s2
  exact ⟨⟨((RBox.new w c).below b1).below (b2 _), s1.below (b2 _), s2 _⟩, below_alloc (below_alloc (below_alloc (Below.refl _ _) _) _) _⟩
theorem ShC.keep {Y W : World} {b : Nat} {c : Cnt} {lo hi : Int} (h : ShC Y b c lo hi) (hb : Below Y.heap.size Y W) : Below Y.heap.size Y W ∧ W.cell? ⟨b, 0, none⟩ = some (.int .i64 c.f) ∧ W.cell? ⟨b, 1, none⟩ = some (.int .i64 c.o) ∧ W.cell? ⟨b, 2, none⟩ = some (.int .i64 c.j) ∧ W.cell? ⟨b, 3, none⟩ = some (.int .i64 c.g) ∧ W.cell? ⟨b, 4, none⟩ = some (.int .i64 c.r) ∧ W.cell? ⟨b, 5, none⟩ = some (.int .i64 c.d) ∧ W.cell? ⟨b, 6, none⟩ = some (.int .i64 c.i) ∧
    W.cell? ⟨b + 1 + 1, 0, none⟩ = some (.int .i64 c.f) ∧ W.cell? ⟨b + 1 + 1, 1, none⟩ = some (.int .i64 c.o) ∧ W.cell? ⟨b + 1 + 1, 2, none⟩ = some (.int .i64 c.j) ∧ W.cell? ⟨b + 1 + 1, 3, none⟩ = some (.int .i64 c.g) ∧ W.cell? ⟨b + 1 + 1, 4, none⟩ = some (.int .i64 c.r) ∧ W.cell? ⟨b + 1 + 1, 5, none⟩ = some (.int .i64 c.d) ∧ W.cell? ⟨b + 1 + 1, 6, none⟩ = some (.int .i64 c.i) :=
  ⟨hb, cell_below hb h.a.c0, cell_below hb h.a.c1, cell_below hb h.a.c2, cell_below hb h.a.c3, cell_below hb h.a.c4, cell_below hb h.a.c5, cell_below hb h.a.c6, cell_below hb h.z.c0, cell_below hb h.z.c1, cell_below hb h.z.c2, cell_below hb h.z.c3, cell_below hb h.z.c4, cell_below hb h.z.c5, cell_below hb h.z.c6⟩
def twoF (x y : Int) (i : Nat) : Int := if i = 0 then x else y
theorem pair_new (X : World) (x y : Int) : FnAt (X.alloc (.cells #[.int .i64 x, .int .i64 y] 3)) (twoF x y) 2 X.heap.size 0 := by
  intro i hi
  have : i = 0 ∨ i = 1 := by omega
  rcases this with rfl | rfl <;> simp [twoF]
set_option maxRecDepth 100000 in
set_option maxHeartbeats 8000000 in
theorem shows_law (c : Cnt) (seed s d m lo hi : Int) (w : World) :
    Calls Try.prog 14 #[cntVal c, .int .u64 seed, .int .i64 s, .int .i64 d, .int .i64 m, .agg #[.int .i64 lo, .int .i64 hi]] w fun e w' => e = .returned (.bool true) ∧ Below w.heap.size w w' := by
  obtain ⟨h2, hb⟩ := sh_new w c lo hi
  have HS := Lib.hid h2
  have HB := Lib.hid hb
  have HC1 := Lib.hid (fun W => check_any c W)
  have HC2 := Lib.hid (fun W => rcheck_any c W)
  have HW1 := Lib.hid (fun W => Wrap_any c d W)
  have HW2 := Lib.hid (fun W => rWrap_any c d W)
  have HV1 := Lib.hid (fun W => show_any c seed s d W)
  have HV2 := Lib.hid (fun W => rShow_any c seed s d W)
  have HR1 := Lib.hid (fun v W => Resolve_any c v lo hi W)
  have HR2 := Lib.hid (fun v W => rResolve_any c v lo hi W)
  have HRS := Lib.hid (fun v => refRes_same c v lo hi)
  unfold shW rcObj cntObj at HS HB
  unfold cntVal at *
  clear h2 hb
  generalize (if wrapErr c d = 0 then wrapS c d else 0) = av at *
  generalize wrapErr c d = ae at *
  generalize (if showErr c s d = 0 then shownS c seed s d else 0) = sv at *
  generalize showErr c s d = se at *
  generalize checkC c = ck at *
  go_enter Try.func14, Try.ntmps14
  go_upto_region 2 with fail
  generalize ((w.alloc (.cells #[.int .i64 c.f, .int .i64 c.o, .int .i64 c.j, .int .i64 c.g, .int .i64 c.r, .int .i64 c.d, .int .i64 c.i] 49)).alloc (.cells #[.int .i64 lo, .int .i64 hi] 43)).alloc (.cells #[.int .i64 c.f, .int .i64 c.o, .int .i64 c.j, .int .i64 c.g, .int .i64 c.r, .int .i64 c.d, .int .i64 c.i] 56) = W0 at *
  obtain ⟨x0, x1, x2, x3, x4, x5, x6⟩ := HS.out.z
  have zx := cell_lt x0
  go_wp2_with fail
  refine (HW1.out _).mono ?_
  rintro e w1 ⟨rfl, hb⟩
  have HS1 := Lib.hid (HS.out.below hb)
  have HB1 := Lib.hid (below_go HB.out hb)
  clear x0 x1 x2 x3 x4 x5 x6 zx hb HS HB
  obtain ⟨x0, x1, x2, x3, x4, x5, x6⟩ := HS1.out.a
  have zx := cell_lt x0
  go_wp2_with fail
  refine (HW2.out _).mono ?_
  rintro e w2 ⟨rfl, hb⟩
  have HS2 := Lib.hid (HS1.out.below hb)
  have HB2 := Lib.hid (below_go HB1.out hb)
  clear x0 x1 x2 x3 x4 x5 x6 zx hb HS1 HB1 HW1 HW2
  obtain ⟨x0, x1, x2, x3, x4, x5, x6⟩ := HS2.out.a
  have zx := cell_lt x0
  obtain ⟨y0, y1, y2, y3, y4, y5, y6⟩ := HS2.out.z
  have zy := cell_lt y0
  have hne1 : (av != av) = false := by simp
  have hne2 : (ae != ae) = false := by simp
  have hne3 : (ck != ck) = false := by simp
  go_upto_region 4 with fail
  go_cut [51] from 37 to 51 (fun sb wx => sb = .bool false ∧ Hid (ShC wx w.heap.size c lo hi) ∧ Hid (Below w.heap.size w wx))
  case first =>
    have hB0 : Below w2.heap.size w2 w2.drew := Below.drew (Below.refl _ _)
    have HK1 := Lib.hid (fun W (hb : Below w2.heap.size w2 W) => (HC1.out W).mono fun _ _ h => And.intro h.1 (hb.trans (h.2.mono hb.size)))
    have HK2 := Lib.hid (fun W (hb : Below w2.heap.size w2 W) => (HC2.out W).mono fun _ _ h => And.intro h.1 (hb.trans (h.2.mono hb.size)))
    go_region_held3 (fun w' => Below w2.heap.size w2 w' ∧ w'.cell? ⟨w.heap.size, 0, none⟩ = some (.int .i64 c.f) ∧ w'.cell? ⟨w.heap.size, 1, none⟩ = some (.int .i64 c.o) ∧ w'.cell? ⟨w.heap.size, 2, none⟩ = some (.int .i64 c.j) ∧ w'.cell? ⟨w.heap.size, 3, none⟩ = some (.int .i64 c.g) ∧ w'.cell? ⟨w.heap.size, 4, none⟩ = some (.int .i64 c.r) ∧ w'.cell? ⟨w.heap.size, 5, none⟩ = some (.int .i64 c.d) ∧ w'.cell? ⟨w.heap.size, 6, none⟩ = some (.int .i64 c.i) ∧ w'.cell? ⟨w.heap.size + 1 + 1, 0, none⟩ = some (.int .i64 c.f) ∧ w'.cell? ⟨w.heap.size + 1 + 1, 1, none⟩ = some (.int .i64 c.o) ∧ w'.cell? ⟨w.heap.size + 1 + 1, 2, none⟩ = some (.int .i64 c.j) ∧ w'.cell? ⟨w.heap.size + 1 + 1, 3, none⟩ = some (.int .i64 c.g) ∧ w'.cell? ⟨w.heap.size + 1 + 1, 4, none⟩ = some (.int .i64 c.r) ∧ w'.cell? ⟨w.heap.size + 1 + 1, 5, none⟩ = some (.int .i64 c.d) ∧ w'.cell? ⟨w.heap.size + 1 + 1, 6, none⟩ = some (.int .i64 c.i))
      (first | exact HS2.out.keep hbB | exact HS2.out.keep hbA | exact HS2.out.keep hB0 | exact HS2.out.keep (Below.refl _ _))
      (first | (go_at_call 15; refine (HK1.out _ hB0).mono ?_; rintro e wA ⟨rfl, hbA⟩) | (go_at_call 16; refine (HK2.out _ hbA).mono ?_; rintro e wB ⟨rfl, hbB⟩))
    all_goals
      go_wp2_with fail
      go_meet
      exact ⟨rfl, Lib.hid (HS2.out.below hbB), Lib.hid (below_go HB2.out hbB)⟩
  case rest =>
    obtain ⟨rfl, HS3, HB3⟩ := hcut
    clear x0 x1 x2 x3 x4 x5 x6 zx y0 y1 y2 y3 y4 y5 y6 zy HS2 HB2 HC1 HC2 hne1 hne2 hne3
    obtain ⟨x0, x1, x2, x3, x4, x5, x6⟩ := HS3.out.z
    have zx := cell_lt x0
    go_wp2_with fail
    refine (HV1.out _).mono ?_
    rintro e w3 ⟨rfl, hb⟩
    have HS4 := Lib.hid (HS3.out.below hb)
    have HB4 := Lib.hid (below_go HB3.out hb)
    clear x0 x1 x2 x3 x4 x5 x6 zx hb HS3 HB3
    obtain ⟨x0, x1, x2, x3, x4, x5, x6⟩ := HS4.out.a
    have zx := cell_lt x0
    go_wp2_with fail
    refine (HV2.out _).mono ?_
    rintro e w4 ⟨rfl, hb⟩
    have hbx := below_alloc (Below.refl w4.heap.size w4) (.cells #[.int .i64 m, .int .i64 sv] 3)
    have HS5 := Lib.hid ((HS4.out.below hb).below hbx)
    have HB5 := Lib.hid (below_go (below_go HB4.out hb) hbx)
    have HF5 := Lib.hid (pair_new w4 m sv)
    have hne1 : (sv != sv) = false := by simp
    have hne2 : (se != se) = false := by simp
    clear x0 x1 x2 x3 x4 x5 x6 zx hb hbx HS4 HB4 HV1 HV2
    go_upto_region 11 with fail
    generalize w4.alloc (.cells #[.int .i64 m, .int .i64 sv] 3) = W5 at *
    generalize w4.heap.size = g at *
    go_loopw [12, 19, 20, 21, 22, 23, 80] (fun s12 s19 s20 s21 s22 s23 s80 wx => ∃ (j : Nat) (v19 v20 v21 v22 v23 : Value), j ≤ 2 ∧ s12 = .bool false ∧ s19 = v19 ∧ s20 = v20 ∧ s21 = v21 ∧ s22 = v22 ∧ s23 = v23 ∧ s80 = .int .i64 (j : Int) ∧ Hid (ShC wx w.heap.size c lo hi) ∧ Hid (FnAt wx (twoF m sv) 2 g 0) ∧ Hid (Below w.heap.size w wx)) (fun _ _ _ _ _ _ s80 _ => 2 - (intOf s80).toNat)
    case atStart => exact ⟨0, _, _, _, _, _, Nat.zero_le _, rfl, rfl, rfl, rfl, rfl, rfl, rfl, HS5, HF5, HB5⟩
    case round =>
      obtain ⟨j, v19, v20, v21, v22, v23, hj, rfl, rfl, rfl, rfl, rfl, rfl, rfl, HS, HF, HB⟩ := hrel
      by_cases hlt : j < 2
      · have hji : (j : Int) < 2 := by omega
        have HJ := Lib.hid hlt
        have x9 := HF.out j hlt
        rw [Nat.zero_add] at x9
        have z9 := cell_lt x9
        have w1 : IntKind.i64.wrap ((j : Int) + 1) = (j : Int) + 1 := IntWalk.i64_in _ (by omega)
        generalize hvj : twoF m sv j = vj at x9
        clear hvj hlt
        have HRA := Lib.hid (HR1.out vj)
        have HRB := Lib.hid (HR2.out vj)
        rw [HRS.out vj] at HRB
        obtain ⟨⟨⟨x, y⟩, e0⟩, hres⟩ : ∃ r, r = resolveS c vj lo hi := ⟨_, rfl⟩
        rw [← hres] at HRA HRB
        unfold resVal spVal at HRA HRB
        dsimp only at HRA HRB
        clear hres
        obtain ⟨d0, d1, d2, d3, d4, d5, d6⟩ := HS.out.z
        have zd := cell_lt d0
        obtain ⟨p0, p1⟩ := HS.out.s
        have zp := cell_lt p0
        go_wp2_with fail
        refine (HRA.out _).mono ?_
        rintro e w6 ⟨rfl, hb⟩
        have hbx := below_alloc (Below.refl w6.heap.size w6) (.cells #[.int .i64 x, .int .i64 y] 43)
        have HS6 := Lib.hid ((HS.out.below hb).below hbx)
        have HF6 := Lib.hid ((HF.out.bel hb).bel hbx)
        have HB6 := Lib.hid (below_go (below_go HB.out hb) hbx)
        have HX6 := Lib.hid (SpBox.new w6 x y 43)
        clear d0 d1 d2 d3 d4 d5 d6 zd p0 p1 zp x9 z9 hb hbx HS HF HB
        go_upto_region 14 with fail
        generalize w6.alloc (.cells #[.int .i64 x, .int .i64 y] 43) = W6 at *
        generalize w6.heap.size = b6 at *
        obtain ⟨d0, d1, d2, d3, d4, d5, d6⟩ := HS6.out.a
        have zd := cell_lt d0
        obtain ⟨p0, p1⟩ := HS6.out.s
        have zp := cell_lt p0
        go_wp2_with fail
        refine (HRB.out _).mono ?_
        rintro e w7 ⟨rfl, hb⟩
        have hbx := below_alloc (Below.refl w7.heap.size w7) (.cells #[.int .i64 x, .int .i64 y] 43)
        have HS7 := Lib.hid ((HS6.out.below hb).below hbx)
        have HF7 := Lib.hid ((HF6.out.bel hb).bel hbx)
        have HB7 := Lib.hid (below_go (below_go HB6.out hb) hbx)
        have HX7 := Lib.hid ((HX6.out.below hb).below hbx)
        have HY7 := Lib.hid (SpBox.new w7 x y 43)
        clear d0 d1 d2 d3 d4 d5 d6 zd p0 p1 zp hb hbx HS6 HF6 HB6 HX6
        go_upto_region 15 with fail
        generalize w7.alloc (.cells #[.int .i64 x, .int .i64 y] 43) = W7 at *
        generalize w7.heap.size = b7 at *
        obtain ⟨p0, p1⟩ := HX7.out
        have zp := cell_lt p0
        obtain ⟨q0, q1⟩ := HY7.out
        have zq := cell_lt q0
        have he0 : (e0 != e0) = false := by simp
        go_wp2_with fail
        go_roundw
        case rel => exact ⟨j + 1, _, _, _, _, _, HJ.out, rfl, rfl, rfl, rfl, rfl, rfl, by simp, HS7, HF7, HB7⟩
        case measure => have := HJ.out; simp [intOf]; omega
      · obtain rfl : j = 2 := by omega
        have hji : ¬ ((2 : Nat) : Int) < 2 := by decide
        go_wp2_with (go_at_call 5; refine (awake2_any _).mono ?_; rintro e w8 ⟨rfl, hb8⟩; have HB8 := Lib.hid (below_go HB.out hb8); clear hb8)
        go_ret
        exact ⟨rfl, HB8.out⟩
end Go.Proofs.Ytlelamjbfjneiaa.Ct
