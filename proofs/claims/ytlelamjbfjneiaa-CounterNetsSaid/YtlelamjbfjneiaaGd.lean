/- The law CounterNets. -/
import Derived.Test.YtlelamjbfjneiaaGc
import Derived.Test.YtlelamjbfjneiaaAk
namespace Go.Proofs.Ytlelamjbfjneiaa.Ct
open Go Go.RowKit Go.Shelf
attribute [local go_sem] Oper.semAt_some
set_option maxRecDepth 100000 in
set_option maxHeartbeats 4000000 in
theorem nets_far (n : Int) (l : List Bnd) (u : List (Int × Bool)) (p q : Option Addr) (cp cq : Nat) (w : World) (h : 260 < l.length ∨ 260 < u.length) :
    Calls Try.prog 3 #[.int .i64 n, .slice p l.length cp, .slice q u.length cq] w fun e w' => e = .returned (.bool true) ∧ Below w.heap.size w w' := by
  by_cases h1 : 260 < l.length
  · have h1i : (260 : Int) < (l.length : Int) := by omega
    clear h h1
    go_enter Try.func3, Try.ntmps3
    go_wp2_with (go_at_call 5; refine (awake2_any _).mono ?_; rintro e w2 ⟨rfl, hb2⟩; have HB2 := Lib.hid hb2; clear hb2)
    go_ret
    exact ⟨rfl, HB2.out⟩
  · have h1i : ¬ (260 : Int) < (l.length : Int) := by omega
    have h2i : (260 : Int) < (u.length : Int) := by omega
    clear h h1
    go_enter Try.func3, Try.ntmps3
    go_wp2_with (go_at_call 5; refine (awake2_any _).mono ?_; rintro e w2 ⟨rfl, hb2⟩; have HB2 := Lib.hid hb2; clear hb2)
    go_ret
    exact ⟨rfl, HB2.out⟩
/-- what the law holds: its own bounds, and what came in -/
structure NetIn (w X : World) (l : List Bnd) (u : List (Int × Bool)) (p p' q : Option Addr) : Prop where
  own : BndsIn X l p'
  ref : BndsIn X l p
  us : UsesIn X u q
  bel : Below w.heap.size w X
theorem NetIn.below {w X Y : World} {l : List Bnd} {u : List (Int × Bool)} {p p' q : Option Addr} (h : NetIn w X l u p p' q) (hb : Below X.heap.size X Y) : NetIn w Y l u p p' q :=
  ⟨h.own.below hb, h.ref.below hb, h.us.below hb, h.bel.trans (hb.mono h.bel.size)⟩
set_option maxRecDepth 100000 in
set_option maxHeartbeats 16000000 in
theorem nets_law (n : Int) (l : List Bnd) (u : List (Int × Bool)) (p q : Option Addr) (cp cq : Nat) (w : World) (hl : l.length ≤ 260) (hu : u.length ≤ 260) (hs : BndsIn w l p) (hq : UsesIn w u q) :
    Calls Try.prog 3 #[.int .i64 n, .slice p l.length cp, .slice q u.length cq] w fun e w' => e = .returned (.bool true) ∧ Below w.heap.size w w' := by
  have hlm : l.length ≤ maxLen := by unfold maxLen; omega
  have hum : u.length ≤ maxLen := by unfold maxLen; omega
  have h1i : ¬ (260 : Int) < (l.length : Int) := by omega
  have h2i : ¬ (260 : Int) < (u.length : Int) := by omega
  have HL := Lib.hid hl
  have HU := Lib.hid hu
  have HS := Lib.hid hs
  have HQ := Lib.hid hq
  have HBO := Lib.hid (bounds_far l p cp w hl hs)
  obtain ⟨ne, hne⟩ : ∃ ne, ne = narE n l := ⟨_, rfl⟩
  obtain ⟨nk, hnk⟩ : ∃ nk, nk = narK n l := ⟨_, rfl⟩
  obtain ⟨nf, hnf⟩ : ∃ nf : Nat → Nat → Int, nf = fun i => rowR l i n.toNat := ⟨_, rfl⟩
  obtain ⟨re, hre⟩ : ∃ re, re = refErr n l u := ⟨_, rfl⟩
  obtain ⟨ge, hge⟩ : ∃ ge, ge = conE n l := ⟨_, rfl⟩
  have HNK := Lib.hid (show nk ≤ 16 by rw [hnk]; exact narK_le n l)
  have HNA : Hid (∀ (pp : Option Addr) (cc : Nat) X, BndsIn X l pp → Calls Try.prog 7 #[.int .i64 n, .slice pp l.length cc] X fun e Y => (∃ pa ca, e = .returned (.tuple #[.slice pa nk ca, .int .i64 ne]) ∧ LstIn Y nf nk pa) ∧ Below X.heap.size X Y) := Lib.hid fun pp cc X hX => (narrow_all n l pp cc X hlm hX).mono fun e Y h => by
    rw [hne, hnk, hnf]; exact h
  have HNR : Hid (∀ (pp : Option Addr) (cc : Nat) X, BndsIn X l pp → Calls Try.prog 8 #[.int .i64 n, .slice pp l.length cc] X fun e Y => (∃ pa ca, e = .returned (.tuple #[.slice pa nk ca, .int .i64 ne]) ∧ LstIn Y nf nk pa) ∧ Below X.heap.size X Y) := Lib.hid fun pp cc X hX => (rnarrow_all n l pp cc X hlm hX).mono fun e Y h => by
    rw [hne, hnk, hnf]; exact h
  have HRP : Hid (∀ (pp qq : Option Addr) (cc dd : Nat) X, BndsIn X l pp → UsesIn X u qq → Calls Try.prog 10 #[.int .i64 n, .slice pp l.length cc, .slice qq u.length dd] X fun e Y => e = .returned (.int .i64 re) ∧ Below X.heap.size X Y) := Lib.hid fun pp qq cc dd X hX hY => by
    rw [hre]; exact refute_all n l u pp qq cc dd X hlm hX hY
  have HRR : Hid (∀ (pp qq : Option Addr) (cc dd : Nat) X, BndsIn X l pp → UsesIn X u qq → Calls Try.prog 12 #[.int .i64 n, .slice pp l.length cc, .slice qq u.length dd] X fun e Y => e = .returned (.int .i64 re) ∧ Below X.heap.size X Y) := Lib.hid fun pp qq cc dd X hX hY => by
    rw [hre]; exact rrefute_all n l u pp qq cc dd X hlm hum hX hY
  have HCO : Hid (∀ (pp : Option Addr) (cc : Nat) X, BndsIn X l pp → Calls Try.prog 13 #[.int .i64 n, .slice pp l.length cc] X fun e w' => (∃ (xs : List (Int × Bool)) (px : Option Addr) (cx : Nat), e = .returned (.tuple #[.slice px xs.length cx, .int .i64 ge]) ∧ UsesIn w' xs px ∧ (xs.length : Int) ≤ max n 0 ∧ xs.length ≤ 16 ∧ (ge ≠ 0 → xs = []) ∧ (ge = 0 → refErr n l xs = 0)) ∧ Below X.heap.size X w') := Lib.hid fun pp cc X hX => by
    rw [hge]; exact contradict_all n l pp cc X hlm hX
  have HGE : Hid (ge = if ne = 0 then 4 else if ne = 12 then 0 else ne) := Lib.hid (by rw [hge, hne]; rfl)
  have HLM := Lib.hid hlm
  clear hne hnk hnf hre hge hlm hum hl hu hs hq
  go_enter Try.func3, Try.ntmps3
  go_upto_region 4 with (go_at_call 6; refine HBO.out.mono ?_; rintro e w1 ⟨⟨p', cp', rfl, hs'⟩, hb1⟩; have HI1 : Hid (NetIn w w1 l u p p' q) := Lib.hid ⟨hs', HS.out.below hb1, HQ.out.below hb1, hb1⟩; clear hb1 hs')
  clear HBO h1i h2i HS HQ
  generalize w1 = W1 at *
  have HN1 := Lib.hid (HNA.out p' cp' W1 HI1.out.own)
  go_upto_region 5 with (go_at_call 7; refine HN1.out.mono ?_; rintro e w2 ⟨⟨pa, ca, rfl, ha⟩, hb2⟩; have HI2 := Lib.hid (HI1.out.below hb2); have HA2 := Lib.hid ha; clear hb2 ha)
  clear HI1 HN1 HNA
  generalize w2 = W2 at *
  have HN2 := Lib.hid (HNR.out p cp W2 HI2.out.ref)
  go_upto_region 6 with (go_at_call 8; refine HN2.out.mono ?_; rintro e w3 ⟨⟨pb, cb, rfl, ha⟩, hb3⟩; have HI3 := Lib.hid (HI2.out.below hb3); have HA3 := Lib.hid (HA2.out.below hb3); have HB3 := Lib.hid ha; clear hb3 ha)
  clear HI2 HN2 HNR HA2
  generalize w3 = W3 at *
  have HSL := Lib.hid (sameLists_any nf nk pa pb ca cb W3 HNK.out HA3.out HB3.out)
  go_upto_region 8 with (first
    | (go_at_call 9; refine HSL.out.mono ?_; rintro e w4 ⟨rfl, hb4⟩; have HI4 := Lib.hid (HI3.out.below hb4); clear hb4; have HUS := Lib.hid (uses_any u q cq w4 HU.out HI4.out.us))
    | (go_at_call 11; refine HUS.out.mono ?_; rintro e w5 ⟨⟨qo, co, rfl, ho⟩, hb5⟩; have HI5 := Lib.hid (HI4.out.below hb5); have HO5 := Lib.hid ho; clear hb5 ho; have HP6 := Lib.hid (HRP.out p' qo cp' co w5 HI5.out.own HO5.out))
    | (go_at_call 10; refine HP6.out.mono ?_; rintro e w6 ⟨rfl, hb6⟩; have HI6 := Lib.hid (HI5.out.below hb6); clear hb6; have HR7 := Lib.hid (HRR.out p q cp cq w6 HI6.out.ref HI6.out.us))
    | (go_at_call 12; refine HR7.out.mono ?_; rintro e w7 ⟨rfl, hb7⟩; have HI7 := Lib.hid (HI6.out.below hb7); clear hb7))
  clear HI3 HI4 HI5 HI6 HA3 HB3 HSL HUS HO5 HP6 HR7 HRP HRR
  generalize w7 = W7 at *
  have HC8 := Lib.hid (HCO.out p' cp' W7 HI7.out.own)
  go_upto_region 9 with (go_at_call 13; refine HC8.out.mono ?_; rintro e w8 ⟨⟨xs, px, cx, rfl, hx, hx1, hx2, hx3, hx4⟩, hb8⟩; have HI8 := Lib.hid (HI7.out.below hb8); have HX8 := Lib.hid hx; have HXA := Lib.hid hx1; have HXB := Lib.hid hx2; have HXC := Lib.hid hx3; have HXD := Lib.hid hx4; clear hb8 hx hx1 hx2 hx3 hx4)
  clear HI7 HC8 HCO
  generalize w8 = W8 at *
  go_upto_region 11 with fail
  obtain ⟨mx, hmx⟩ : ∃ mx, mx = max n 0 := ⟨_, rfl⟩
  have em : (if n < 0 then 0 else n) = mx := by rw [hmx]; split <;> omega
  have hmxl : ¬ mx < (xs.length : Int) := by rw [hmx]; have := HXA.out; omega
  clear hmx HXA
  by_cases h0 : ne = 0
  · have hg : ge = 4 := by rw [HGE.out, if_pos h0]
    subst h0 hg
    clear HGE
    have hx0 : (xs.length : Int) = 0 := by rw [HXC.out (by decide)]; rfl
    go_upto_region 18 with fail
    clear em hmxl hx0
    have HI10 := HI8
    have HX10 := HX8
    clear HI8 HX8
    generalize W8 = W10 at *
    obtain ⟨i0, hi0, hz0, hz1, hz2⟩ := info_parts infoRUse
    go_wp2_with fail
    go_loopw [15, 16] (fun s15 s16 wx => ∃ (k : Nat) (v : Value), k ≤ xs.length ∧ s15 = v ∧ s16 = .int .i64 (k : Int) ∧ Hid (UsAt 40 W10 wx v xs k)) (fun _ s16 _ => xs.length - (intOf s16).toNat)
    case atStart => exact ⟨0, _, Nat.zero_le _, rfl, rfl, Lib.hid (UsAt.nil _ W10 xs)⟩
    case round =>
      obtain ⟨k, v, hk, rfl, rfl, HB⟩ := hrel
      by_cases hlt : k < xs.length
      · have hki : (k : Int) < xs.length := by omega
        have HK := Lib.hid hlt
        obtain ⟨b, o, rfl, hi⟩ := (HX10.out.below HB.out.bel).resolve_left (by omega)
        obtain ⟨x0, x1⟩ := hi k hlt
        have zx := cell_lt x0
        have w1 : IntKind.i64.wrap ((k : Int) + 1) = (k : Int) + 1 := IntWalk.i64_in _ (by have := HXB.out; omega)
        clear hi hlt hk
        go_wp2_with (at_builtin; refine wpList_append_own_at _ rfl (.tmp 99) (.tmp 104) _ rfl W10.heap.size 40 i0 (.agg #[.int .i64 0, .bool false]) 2 16 Try.underlying23 hi0 hz0 hz1 hz2 rfl (by decide) _ k _ rfl (World.ownsRow.alloc HB.out.own _) ⟨wr.heap.size, 0, none⟩ 1 1 [.int .i64 (useAt xs k).1, .bool (useAt xs k).2] rfl rfl (two_new _ _ _ _) (by simp [Value.oneCell']) (by have := HK.out; have := HXB.out; unfold maxLen; omega) (by have := HK.out; have := HXB.out; omega) (by have := HB.out.bel.size; simp; omega) ?_; intro v' z1 hown hg _ _; have HB2 := Lib.hid (HB.out.more HK.out hown hg); clear hown hg)
        go_roundw
        case rel => exact ⟨k + 1, v', HK.out, rfl, by simp, HB2⟩
        case measure => have := HK.out; simp [intOf]; omega
      · obtain rfl : k = xs.length := by omega
        have hki : ¬ ((xs.length : Int) < xs.length) := by omega
        obtain ⟨py, cy, rfl, hy⟩ := HB.out.uses
        have HY := Lib.hid hy
        have HI11 := Lib.hid (HI10.out.below HB.out.bel)
        clear hy HI10 HX10 HB hlt hk
        go_upto_region 22 with fail
        clear hki
        generalize hwr : wr = W11 at *
        clear hwr
        go_upto_region 24 with fail
        have HI12 := HI11
        clear HI11 HY HXB HXC HXD
        generalize W11 = W12 at *
        go_wp2_with fail
        go_loopw [17] (fun s17 wx => ∃ (k : Nat), k ≤ l.length ∧ s17 = .int .i64 (k : Int) ∧ Hid (Below W12.heap.size W12 wx)) (fun s17 _ => l.length - (intOf s17).toNat)
        case atStart => exact ⟨0, Nat.zero_le _, rfl, Lib.hid (Below.refl _ _)⟩
        case round =>
          obtain ⟨k, hk, rfl, HB⟩ := hrel
          by_cases hlt : k < l.length
          · have hki : (k : Int) < l.length := by omega
            have HK := Lib.hid hlt
            obtain ⟨b1, o1, rfl, hi1⟩ := (HI12.out.own.below HB.out).resolve_left (by omega)
            obtain ⟨b2, o2, rfl, hi2⟩ := (HI12.out.ref.below HB.out).resolve_left (by omega)
            obtain ⟨⟨x0, x1⟩, x2, x3⟩ := hi1 k hlt
            obtain ⟨⟨y0, y1⟩, y2, y3⟩ := hi2 k hlt
            have zx := cell_lt x0
            have zy := cell_lt y0
            have w1 : IntKind.i64.wrap ((k : Int) + 1) = (k : Int) + 1 := IntWalk.i64_in _ (by have := HL.out; omega)
            generalize bndAt l k = xk at *
            obtain ⟨xa, xb, xlo, xhi⟩ := xk
            dsimp only at x0 x1 x2 x3 y0 y1 y2 y3
            clear hi1 hi2 hlt hk
            go_upto_region 27 with fail
            go_quiet (fail)
            go_wp2_with fail
            go_roundw
            case rel => exact ⟨k + 1, HK.out, by simp, Lib.hid (below_drewN HB.out _)⟩
            case measure => have := HK.out; simp [intOf]; omega
          · have hki : ¬ ((k : Int) < l.length) := by omega
            have HBZ := Lib.hid (HI12.out.bel.trans (HB.out.mono HI12.out.bel.size))
            clear hlt hk
            go_wp2_with (go_at_call 5; refine (awake2_any _).mono ?_; rintro e w20 ⟨rfl, hb20⟩; have HB20 := Lib.hid (HBZ.out.trans (hb20.mono HBZ.out.size)); clear hb20)
            go_ret
            exact ⟨rfl, HB20.out⟩
  · have h0b : (ne == 0) = false := by simpa using h0
    by_cases h12 : ne = 12
    · have hg : ge = 0 := by rw [HGE.out, if_neg h0, if_pos h12]
      subst h12 hg
      clear h0 h0b HGE
      go_upto_region 18 with fail
      clear em hmxl
      have HI10 := HI8
      have HX10 := HX8
      clear HI8 HX8
      generalize W8 = W10 at *
      obtain ⟨i0, hi0, hz0, hz1, hz2⟩ := info_parts infoRUse
      go_wp2_with fail
      go_loopw [15, 16] (fun s15 s16 wx => ∃ (k : Nat) (v : Value), k ≤ xs.length ∧ s15 = v ∧ s16 = .int .i64 (k : Int) ∧ Hid (UsAt 40 W10 wx v xs k)) (fun _ s16 _ => xs.length - (intOf s16).toNat)
      case atStart => exact ⟨0, _, Nat.zero_le _, rfl, rfl, Lib.hid (UsAt.nil _ W10 xs)⟩
      case round =>
        obtain ⟨k, v, hk, rfl, rfl, HB⟩ := hrel
        by_cases hlt : k < xs.length
        · have hki : (k : Int) < xs.length := by omega
          have HK := Lib.hid hlt
          obtain ⟨b, o, rfl, hi⟩ := (HX10.out.below HB.out.bel).resolve_left (by omega)
          obtain ⟨x0, x1⟩ := hi k hlt
          have zx := cell_lt x0
          have w1 : IntKind.i64.wrap ((k : Int) + 1) = (k : Int) + 1 := IntWalk.i64_in _ (by have := HXB.out; omega)
          clear hi hlt hk
          go_wp2_with (at_builtin; refine wpList_append_own_at _ rfl (.tmp 99) (.tmp 104) _ rfl W10.heap.size 40 i0 (.agg #[.int .i64 0, .bool false]) 2 16 Try.underlying23 hi0 hz0 hz1 hz2 rfl (by decide) _ k _ rfl (World.ownsRow.alloc HB.out.own _) ⟨wr.heap.size, 0, none⟩ 1 1 [.int .i64 (useAt xs k).1, .bool (useAt xs k).2] rfl rfl (two_new _ _ _ _) (by simp [Value.oneCell']) (by have := HK.out; have := HXB.out; unfold maxLen; omega) (by have := HK.out; have := HXB.out; omega) (by have := HB.out.bel.size; simp; omega) ?_; intro v' z1 hown hg _ _; have HB2 := Lib.hid (HB.out.more HK.out hown hg); clear hown hg)
          go_roundw
          case rel => exact ⟨k + 1, v', HK.out, rfl, by simp, HB2⟩
          case measure => have := HK.out; simp [intOf]; omega
        · obtain rfl : k = xs.length := by omega
          have hki : ¬ ((xs.length : Int) < xs.length) := by omega
          obtain ⟨py, cy, rfl, hy⟩ := HB.out.uses
          have HY := Lib.hid hy
          have HI11 := Lib.hid (HI10.out.below HB.out.bel)
          clear hy HI10 HX10 HB hlt hk
          go_upto_region 22 with fail
          clear hki
          generalize hwr : wr = W11 at *
          clear hwr
          have HRC : Hid (Calls Try.prog 12 #[.int .i64 n, .slice p l.length cp, .slice py xs.length cy] W11 fun e Y => e = .returned (.int .i64 0) ∧ Below W11.heap.size W11 Y) := Lib.hid (by
            have h := rrefute_all n l xs p py cp cy W11 HLM.out (by have := HXB.out; unfold maxLen; omega) HI11.out.ref HY.out
            rw [HXD.out trivial] at h
            exact h)
          go_upto_region 24 with (go_at_call 12; refine HRC.out.mono ?_; rintro e w12 ⟨rfl, hb12⟩; have HI12 := Lib.hid (HI11.out.below hb12); clear hb12)
          clear HI11 HY HXB HXC HXD HRC
          generalize w12 = W12 at *
          go_wp2_with fail
          go_loopw [17] (fun s17 wx => ∃ (k : Nat), k ≤ l.length ∧ s17 = .int .i64 (k : Int) ∧ Hid (Below W12.heap.size W12 wx)) (fun s17 _ => l.length - (intOf s17).toNat)
          case atStart => exact ⟨0, Nat.zero_le _, rfl, Lib.hid (Below.refl _ _)⟩
          case round =>
            obtain ⟨k, hk, rfl, HB⟩ := hrel
            by_cases hlt : k < l.length
            · have hki : (k : Int) < l.length := by omega
              have HK := Lib.hid hlt
              obtain ⟨b1, o1, rfl, hi1⟩ := (HI12.out.own.below HB.out).resolve_left (by omega)
              obtain ⟨b2, o2, rfl, hi2⟩ := (HI12.out.ref.below HB.out).resolve_left (by omega)
              obtain ⟨⟨x0, x1⟩, x2, x3⟩ := hi1 k hlt
              obtain ⟨⟨y0, y1⟩, y2, y3⟩ := hi2 k hlt
              have zx := cell_lt x0
              have zy := cell_lt y0
              have w1 : IntKind.i64.wrap ((k : Int) + 1) = (k : Int) + 1 := IntWalk.i64_in _ (by have := HL.out; omega)
              generalize bndAt l k = xk at *
              obtain ⟨xa, xb, xlo, xhi⟩ := xk
              dsimp only at x0 x1 x2 x3 y0 y1 y2 y3
              clear hi1 hi2 hlt hk
              go_upto_region 27 with fail
              go_quiet (fail)
              go_wp2_with fail
              go_roundw
              case rel => exact ⟨k + 1, HK.out, by simp, Lib.hid (below_drewN HB.out _)⟩
              case measure => have := HK.out; simp [intOf]; omega
            · have hki : ¬ ((k : Int) < l.length) := by omega
              have HBZ := Lib.hid (HI12.out.bel.trans (HB.out.mono HI12.out.bel.size))
              clear hlt hk
              go_wp2_with (go_at_call 5; refine (awake2_any _).mono ?_; rintro e w20 ⟨rfl, hb20⟩; have HB20 := Lib.hid (HBZ.out.trans (hb20.mono HBZ.out.size)); clear hb20)
              go_ret
              exact ⟨rfl, HB20.out⟩
    · have h12b : (ne == 12) = false := by simpa using h12
      have hg : ge = ne := by rw [HGE.out, if_neg h0, if_neg h12]
      subst hg
      clear HGE
      have hx0 : (xs.length : Int) = 0 := by rw [HXC.out (by exact h0)]; rfl
      have h0c : (ge != 0) = true := by simpa using h0
      go_upto_region 18 with fail
      clear em hmxl hx0
      have HI10 := HI8
      have HX10 := HX8
      clear HI8 HX8
      generalize W8 = W10 at *
      obtain ⟨i0, hi0, hz0, hz1, hz2⟩ := info_parts infoRUse
      go_wp2_with fail
      go_loopw [15, 16] (fun s15 s16 wx => ∃ (k : Nat) (v : Value), k ≤ xs.length ∧ s15 = v ∧ s16 = .int .i64 (k : Int) ∧ Hid (UsAt 40 W10 wx v xs k)) (fun _ s16 _ => xs.length - (intOf s16).toNat)
      case atStart => exact ⟨0, _, Nat.zero_le _, rfl, rfl, Lib.hid (UsAt.nil _ W10 xs)⟩
      case round =>
        obtain ⟨k, v, hk, rfl, rfl, HB⟩ := hrel
        by_cases hlt : k < xs.length
        · have hki : (k : Int) < xs.length := by omega
          have HK := Lib.hid hlt
          obtain ⟨b, o, rfl, hi⟩ := (HX10.out.below HB.out.bel).resolve_left (by omega)
          obtain ⟨x0, x1⟩ := hi k hlt
          have zx := cell_lt x0
          have w1 : IntKind.i64.wrap ((k : Int) + 1) = (k : Int) + 1 := IntWalk.i64_in _ (by have := HXB.out; omega)
          clear hi hlt hk
          go_wp2_with (at_builtin; refine wpList_append_own_at _ rfl (.tmp 99) (.tmp 104) _ rfl W10.heap.size 40 i0 (.agg #[.int .i64 0, .bool false]) 2 16 Try.underlying23 hi0 hz0 hz1 hz2 rfl (by decide) _ k _ rfl (World.ownsRow.alloc HB.out.own _) ⟨wr.heap.size, 0, none⟩ 1 1 [.int .i64 (useAt xs k).1, .bool (useAt xs k).2] rfl rfl (two_new _ _ _ _) (by simp [Value.oneCell']) (by have := HK.out; have := HXB.out; unfold maxLen; omega) (by have := HK.out; have := HXB.out; omega) (by have := HB.out.bel.size; simp; omega) ?_; intro v' z1 hown hg _ _; have HB2 := Lib.hid (HB.out.more HK.out hown hg); clear hown hg)
          go_roundw
          case rel => exact ⟨k + 1, v', HK.out, rfl, by simp, HB2⟩
          case measure => have := HK.out; simp [intOf]; omega
        · obtain rfl : k = xs.length := by omega
          have hki : ¬ ((xs.length : Int) < xs.length) := by omega
          obtain ⟨py, cy, rfl, hy⟩ := HB.out.uses
          have HY := Lib.hid hy
          have HI11 := Lib.hid (HI10.out.below HB.out.bel)
          clear hy HI10 HX10 HB hlt hk
          go_upto_region 22 with fail
          clear hki
          generalize hwr : wr = W11 at *
          clear hwr
          go_upto_region 24 with fail
          have HI12 := HI11
          clear HI11 HY HXB HXC HXD
          generalize W11 = W12 at *
          go_wp2_with fail
          go_loopw [17] (fun s17 wx => ∃ (k : Nat), k ≤ l.length ∧ s17 = .int .i64 (k : Int) ∧ Hid (Below W12.heap.size W12 wx)) (fun s17 _ => l.length - (intOf s17).toNat)
          case atStart => exact ⟨0, Nat.zero_le _, rfl, Lib.hid (Below.refl _ _)⟩
          case round =>
            obtain ⟨k, hk, rfl, HB⟩ := hrel
            by_cases hlt : k < l.length
            · have hki : (k : Int) < l.length := by omega
              have HK := Lib.hid hlt
              obtain ⟨b1, o1, rfl, hi1⟩ := (HI12.out.own.below HB.out).resolve_left (by omega)
              obtain ⟨b2, o2, rfl, hi2⟩ := (HI12.out.ref.below HB.out).resolve_left (by omega)
              obtain ⟨⟨x0, x1⟩, x2, x3⟩ := hi1 k hlt
              obtain ⟨⟨y0, y1⟩, y2, y3⟩ := hi2 k hlt
              have zx := cell_lt x0
              have zy := cell_lt y0
              have w1 : IntKind.i64.wrap ((k : Int) + 1) = (k : Int) + 1 := IntWalk.i64_in _ (by have := HL.out; omega)
              generalize bndAt l k = xk at *
              obtain ⟨xa, xb, xlo, xhi⟩ := xk
              dsimp only at x0 x1 x2 x3 y0 y1 y2 y3
              clear hi1 hi2 hlt hk
              go_upto_region 27 with fail
              go_quiet (fail)
              go_wp2_with fail
              go_roundw
              case rel => exact ⟨k + 1, HK.out, by simp, Lib.hid (below_drewN HB.out _)⟩
              case measure => have := HK.out; simp [intOf]; omega
            · have hki : ¬ ((k : Int) < l.length) := by omega
              have HBZ := Lib.hid (HI12.out.bel.trans (HB.out.mono HI12.out.bel.size))
              clear hlt hk
              go_wp2_with (go_at_call 5; refine (awake2_any _).mono ?_; rintro e w20 ⟨rfl, hb20⟩; have HB20 := Lib.hid (HBZ.out.trans (hb20.mono HBZ.out.size)); clear hb20)
              go_ret
              exact ⟨rfl, HB20.out⟩
theorem nets_any (n : Int) (l : List Bnd) (u : List (Int × Bool)) (p q : Option Addr) (cp cq : Nat) (w : World) (hs : BndsIn w l p) (hq : UsesIn w u q) :
    Calls Try.prog 3 #[.int .i64 n, .slice p l.length cp, .slice q u.length cq] w fun e w' => e = .returned (.bool true) ∧ Below w.heap.size w w' := by
  by_cases hl : l.length ≤ 260
  · by_cases hu : u.length ≤ 260
    · exact nets_law n l u p q cp cq w hl hu hs hq
    · exact nets_far n l u p q cp cq w (.inr (by omega))
  · exact nets_far n l u p q cp cq w (.inl (by omega))
end Go.Proofs.Ytlelamjbfjneiaa.Ct
