/- Layer 9 (calendar): the law CalendarExtends. (by gen_gd.py) -/
import Derived.Test.YtnbccbjhnlggaaaDoorGc
import Derived.Test.YtnbccbjhnlggaaaDoorFe
import Derived.Test.YtnbccbjhnlggaaaDoorDo
namespace Go.Proofs.YtnbccbjhnlggaaaDoor.Cal
open Go Go.RowKit
attribute [local go_sem] Oper.semAt_some
theorem wf_u16 {n : Int} (h : (Lit.int .u16 n).wf = true) : 0 ≤ n ∧ n ≤ 65535 := by
  simp only [Lit.wf, Bool.and_eq_true, decide_eq_true_eq] at h
  have h1 : IntKind.u16.min = 0 := by decide
  have h2 : IntKind.u16.max = 65535 := by decide
  omega
/-- what lies in memory behind the law's first loop -/
structure LawE (w : World) (a9 : Nat) (X : World) (b u : Int) (n c : Nat) (p : Option Addr) (a : Int) (m cq : Nat) (q : Option Addr) (f fa : Nat → Int × Int) : Prop where
  tb : TBox X a9 b u n c p
  ta : TBox X (a9 + 1) b a m cq q
  lb : LpIn X f n p
  la : LpIn X fa m q
  mon : Mon X
  bel : Below w.heap.size w X
  z : 0 < m → ∀ g o, q = some ⟨g, o, none⟩ → ∀ i, X.frozen? ⟨g, i, none⟩ = false
theorem LawE.below {w : World} {a9 : Nat} {X Y : World} {b u : Int} {n c : Nat} {p : Option Addr} {a : Int} {m cq : Nat} {q : Option Addr} {f fa : Nat → Int × Int} (h : LawE w a9 X b u n c p a m cq q f fa) (hb : Below X.heap.size X Y) : LawE w a9 Y b u n c p a m cq q f fa :=
  ⟨h.tb.below hb, h.ta.below hb, h.lb.below hb, h.la.below hb, h.mon.below hb, bt h.bel hb, fun hm g o e i => by
    rcases h.la with h0 | ⟨g', o', e', hi⟩
    · omega
    · rw [e'] at e; cases e
      exact (hb.frozen (p := ⟨g, i, none⟩) (cell_lt (hi 0 hm).1)).trans (h.z hm g o e' i)⟩
theorem LpAt.flip {X : World} {f : Nat → Int × Int} {m g o i : Nat} (h : LpAt X f m g o) (hi : i < m) : LpAt (X.setCell ⟨g, o + i * 2 + 1, none⟩ (.int .i64 (-(f i).2))) (flipS f i) m g o := by
  intro j hj
  rw [flip_day]
  have oth : ∀ {o1 : Nat} {x : Value}, o1 ≠ o + i * 2 + 1 → X.cell? ⟨g, o1, none⟩ = some x → (X.setCell ⟨g, o + i * 2 + 1, none⟩ (.int .i64 (-(f i).2))).cell? ⟨g, o1, none⟩ = some x := fun {o1 x} hne hx => by
    rw [World.cell?_setCell_other _ ⟨g, o + i * 2 + 1, none⟩ ⟨g, o1, none⟩ _ (fun e => hne (by cases e; rfl))]; exact hx
  refine ⟨oth (by omega) (h j hj).1, ?_⟩
  by_cases e : j = i
  · subst e
    rw [flip_at]
    exact World.cell?_setCell_same _ _ _ (h j hj).2
  · rw [flip_ne f e]
    exact oth (by omega) (h j hj).2
theorem TBox.set {X : World} {a a' o' : Nat} {b u : Int} {n c : Nat} {p : Option Addr} {v : Value} (h : TBox X a b u n c p) (hne : a ≠ a') : TBox (X.setCell ⟨a', o', none⟩ v) a b u n c p :=
  ⟨farC hne h.c0, farC hne h.c1, farC hne h.c2⟩
theorem LawE.flip {w : World} {a9 : Nat} {X : World} {b u : Int} {n c : Nat} {p : Option Addr} {a : Int} {m cq g o i : Nat} {f : Nat → Int × Int} (h : LawE w a9 X b u n c p a m cq (some ⟨g, o, none⟩) f f) (hi : i < m) (hg : a9 + 1 + 1 ≤ g) (hp : ∀ g' o', p = some ⟨g', o', none⟩ → 0 < n → g' < a9) (hmo : 0 < a9) (hw : w.heap.size ≤ a9) :
    LawE w a9 (X.setCell ⟨g, o + i * 2 + 1, none⟩ (.int .i64 (-(f i).2))) b u n c p a m cq (some ⟨g, o, none⟩) f (flipS f i) := by
  refine ⟨h.tb.set (by omega), h.ta.set (by omega), ?_, ?_, fun j hj => farC (by omega) (h.mon j hj), h.bel.setCell (p := ⟨g, o + i * 2 + 1, none⟩) (by show w.heap.size ≤ g; omega) _, fun hm g' o' e j => (World.frozen?_setCell _ _ _ _).trans (h.z hm g' o' e j)⟩
  · rcases h.lb with h0 | ⟨g', o', e, hl⟩
    · exact .inl h0
    · by_cases hn : 0 < n
      · have := hp g' o' e hn
        exact .inr ⟨g', o', e, fun j hj => ⟨farC (by omega) (hl j hj).1, farC (by omega) (hl j hj).2⟩⟩
      · exact .inl (by omega)
  · rcases h.la with h0 | ⟨g', o', e, hl⟩
    · omega
    · cases e
      exact .inr ⟨g, o, rfl, hl.flip hi⟩
/-- .. and the extended table -/
structure LawF (w : World) (a9 at' : Nat) (X : World) (b u : Int) (n c : Nat) (p : Option Addr) (a : Int) (m cq : Nat) (q : Option Addr) (f fa : Nat → Int × Int) (ct : Nat) (qt : Option Addr) : Prop where
  e : LawE w a9 X b u n c p a m cq q f fa
  tt : TBox X at' b u n ct qt
  lt : LpIn X f n qt
theorem LawF.below {w : World} {a9 at' : Nat} {X Y : World} {b u : Int} {n c : Nat} {p : Option Addr} {a : Int} {m cq : Nat} {q : Option Addr} {f fa : Nat → Int × Int} {ct : Nat} {qt : Option Addr} (h : LawF w a9 at' X b u n c p a m cq q f fa ct qt) (hb : Below X.heap.size X Y) : LawF w a9 at' Y b u n c p a m cq q f fa ct qt :=
  ⟨h.e.below hb, h.tt.below hb, h.lt.below hb⟩
theorem LawF.new {w : World} {a9 : Nat} {X Y : World} {b u : Int} {n c : Nat} {p : Option Addr} {a : Int} {m cq : Nat} {q : Option Addr} {f fa : Nat → Int × Int} {ct : Nat} {qt : Option Addr} (h : LawE w a9 X b u n c p a m cq q f fa) (hb : Below X.heap.size X Y) (hl : LpIn Y f n qt) : LawF w a9 Y.heap.size (Y.alloc (.cells #[.int .i64 b, .slice qt n ct, .int .i64 u] 43)) b u n c p a m cq q f fa ct qt := by
  have b1 := below_alloc (Below.refl Y.heap.size Y) (.cells #[.int .i64 b, .slice qt n ct, .int .i64 u] 43)
  exact ⟨(h.below hb).below b1, TBox.new Y b u n ct qt 43, hl.below b1⟩
set_option maxRecDepth 100000 in
set_option maxHeartbeats 8000000 in
theorem calendarExtends_any (g : Nat → Int) (nl cl : Nat) (pl : Option Addr) (ct z x : Int) (hct : 0 ≤ ct ∧ ct ≤ 65535) (hx : 0 ≤ x ∧ x ≤ 255) (w : World) (hw : Mon w) (hl : ByIn w g nl pl) (hm : nl ≤ maxLen) :
    Calls Tryd.prog 4 #[.slice pl nl cl, .int .u16 ct, .int .i64 z, .int .u8 x] w fun e w' => e = .returned (.bool true) ∧ Below w.heap.size w w' := by
  have HMD := Lib.hid (Made_any g nl cl pl w hw hl hm)
  have HW := Lib.hid hw
  have HX := Lib.hid hx
  clear hw hl hm
  go_enter Tryd.func4, Tryd.ntmps4
  go_upto_region 2 with (go_at_call 15; refine HMD.out.mono ?_; rintro e w2 ⟨b, u, n, c, p, f, rfl, ht, hn, hc, hcm, hlp, hb⟩; have HB2 := Lib.hid hb; have HT := Lib.hid ht; have HC := Lib.hid (And.intro hc hcm); have HN12 := Lib.hid hn; have HLP := Lib.hid hlp; clear ht hn hc hcm hlp hb)
  have hu1 := HT.out.u1
  have hu2 := HT.out.u2
  have c1 : IntKind.i64.wrap ct = ct := IntWalk.i64_in _ (by omega)
  have c2 : IntKind.i64.wrap (u - 41317) = u - 41317 := IntWalk.i64_in _ (by omega)
  have m1 := Int.emod_nonneg ct (show u - 41317 ≠ 0 by omega)
  have m2 := Int.emod_lt_of_pos ct (show 0 < u - 41317 by omega)
  obtain ⟨r, hr⟩ : ∃ r, ct % (u - 41317) = r := ⟨_, rfl⟩
  rw [hr] at m1 m2
  have c3 : ct.tmod (u - 41317) = r := by rw [Int.tmod_eq_emod_of_nonneg (by omega), hr]
  obtain ⟨a, ha⟩ : ∃ a, 41318 + r = a := ⟨_, rfl⟩
  have c4 : IntKind.i64.wrap (41318 + r) = a := by rw [ha]; exact IntWalk.i64_in _ (by omega)
  have hne : ¬ u - 41317 = 0 := by omega
  have haa : 41318 ≤ a ∧ a ≤ u := by omega
  clear hr m1 m2 ha
  obtain ⟨m, hmn, hlt, hge⟩ := cut_ex f a n HT.out.o
  have HTA := Lib.hid (HT.out.cut haa hmn hlt)
  have HCT := Lib.hid (ct_start w2 b u a n c p f)
  have HLG := Lib.hid (And.intro hmn (And.intro hlt hge))
  obtain ⟨x0, x1, x2⟩ := TBox.new w2 b u n c p 43
  have zx := cell_lt x0
  have hx0 := Lib.hid (show (w2.alloc (.cells #[.int .i64 b, .slice p n c, .int .i64 u] 43)).heap.size = w2.heap.size + 1 by simp)
  generalize w2.alloc (.cells #[.int .i64 b, .slice p n c, .int .i64 u] 43) = X0 at *
  go_region
  rw [hx0.out]
  generalize (X0.alloc (.cells #[.int .i64 b, .slice none 0 0, .int .i64 a] 43)).drew = X1 at *
  clear x0 x1 x2 zx c1 c2 c3 c4 hne hx0
  obtain ⟨x0, x1, x2⟩ := HCT.out.t
  have zx := cell_lt x0
  go_upto_region 4 with fail
  clear x0 x1 x2 zx hlt hge
  obtain ⟨i0, hi0, hz0, hz1, hz2⟩ := info_parts infoLeap
  go_loopw [12, 40] (fun s12 s40 wr => ∃ (k : Nat) (v12 v : Value), k ≤ n ∧ s12 = v12 ∧ s40 = .int .i64 (k : Int) ∧ Hid (CtAt w2 wr b u a n c (upTo k m) p f v)) (fun _ s _ => n - (intOf s).toNat)
  case atStart => exact ⟨0, _, _, Nat.zero_le _, rfl, rfl, Lib.hid ((upTo_zero m).symm ▸ HCT.out)⟩
  case round =>
    obtain ⟨k, v12, v, hk, rfl, rfl, HA⟩ := hrel
    have hn12 := HN12.out
    by_cases hlt : k < n
    · have hki : (k : Int) < n := by omega
      have vk : IntKind.i64.wrap ((k : Int) + 1) = (k : Int) + 1 := IntWalk.i64_in _ (by omega)
      obtain ⟨bb, oo, rfl, hsi⟩ := (HLP.out.below HA.out.bel).resolve_left (by omega)
      obtain ⟨y0, y1⟩ := hsi k hlt
      have zy := cell_lt y0
      have hb1 := below_alloc (Below.refl wr.heap.size wr) (.cells #[.int .i64 (f k).1, .int .i64 (f k).2] 46)
      have q0 : (wr.alloc (.cells #[.int .i64 (f k).1, .int .i64 (f k).2] 46)).cell? ⟨wr.heap.size, 0, none⟩ = some (.int .i64 (f k).1) := by simp
      have q1 : (wr.alloc (.cells #[.int .i64 (f k).1, .int .i64 (f k).2] 46)).cell? ⟨wr.heap.size, 1, none⟩ = some (.int .i64 (f k).2) := by simp
      have HA1 := Lib.hid (HA.out.below hb1)
      have HK := Lib.hid hlt
      clear hsi hb1
      by_cases hkm : k < m
      · obtain ⟨hup, hup1⟩ := upTo_in hkm
        have HUP1 := Lib.hid hup1
        rw [hup] at HA1
        have hday := HLG.out.2.1 k hkm
        have HLV := Lib.hid (show ([.int .i64 (f k).1, .int .i64 (f k).2] : List Value) = [.int .i64 (f k).1, .int .i64 (f k).2] from rfl)
        obtain ⟨dk, hdk⟩ : ∃ dk, (f k).1 = dk := ⟨_, rfl⟩
        obtain ⟨sk, hsk⟩ : ∃ sk, (f k).2 = sk := ⟨_, rfl⟩
        rw [hdk] at hday y0
        rw [hsk] at y1
        rw [hdk, hsk] at q0 q1 HA1
        have HFK := Lib.hid (And.intro hdk hsk)
        clear hdk hsk hlt hkm hup hup1 HA HLV
        go_upto_region 6 with fail
        generalize wr.alloc (.cells #[.int .i64 dk, .int .i64 sk] 46) = W6 at *
        have zq := cell_lt q0
        have e2 := HA1.out.q2
        have ze := cell_lt e2
        have HQ0 := Lib.hid q0
        have HQ1 := Lib.hid q1
        go_upto_region 7 with fail
        have e1 := HA1.out.q1
        have ez := HA1.out.qz 1
        clear e2
        go_upto_region 8 with (at_builtin; refine wpList_append_own_at _ rfl _ _ _ rfl (w2.heap.size + 1 + 1) 46 i0 (.agg #[.int .i64 0, .int .i64 0]) 2 16 Tryd.underlying41 hi0 hz0 hz1 hz2 rfl (by decide) _ k _ rfl (HA1.out.own.alloc _) ⟨W6.heap.size, 0, none⟩ 1 1 [.int .i64 dk, .int .i64 sk] rfl rfl (two_new _ _ _ _) (by simp [Value.oneCell']) (by unfold maxLen; omega) (by omega) (by have := cell_lt HA1.out.q0; simp; omega) ?_; intro v' w7 hown hg _ _; obtain ⟨g', cap', rfl⟩ := ownsRow_succ hown; have HA2 := Lib.hid ((HA1.out.below (below_alloc (Below.refl _ _) _)).more (by rw [HFK.out.1, HFK.out.2]; exact hown) hg); have q2 := grownO_cell hg (cell_below (below_alloc (Below.refl _ _) _) e1) (fun e => by have := own_geS HA1.out.own e.symm; omega); have zq2 := cell_lt q2; have qz2 := grownO_frozen hg (by have := cell_lt e1; simp; omega) (fun e => by have := own_geS HA1.out.own e.symm; omega) ((below_alloc (Below.refl W6.heap.size W6) _).frozen (p := ⟨w2.heap.size + 1, 1, none⟩) (cell_lt e1) |>.trans ez); clear hown hg)
        generalize w7.setCell ⟨w2.heap.size + 1, 1, none⟩ (.slice (some ⟨g', 0, none⟩) (k + 1) cap') = W8 at *
        clear q2 zq2 qz2 q0 q1 zq ze e1 ez y0 y1 zy
        go_wp2_with fail
        go_roundw
        case rel => exact ⟨k + 1, _, _, HK.out, rfl, by simp, Lib.hid (by rw [HUP1.out]; exact HA2.out)⟩
        case measure => have := HK.out; simp [intOf]; omega
      · obtain ⟨hup, hup1⟩ := upTo_out hkm
        have HUP1 := Lib.hid hup1
        rw [hup] at HA1
        have hday := HLG.out.2.2 k (by omega) hlt
        have hdn : ¬ (f k).1 < a := by omega
        obtain ⟨dk, hdk⟩ : ∃ dk, (f k).1 = dk := ⟨_, rfl⟩
        obtain ⟨sk, hsk⟩ : ∃ sk, (f k).2 = sk := ⟨_, rfl⟩
        rw [hdk] at hday y0 hdn
        rw [hsk] at y1
        rw [hdk, hsk] at q0 q1 HA1
        clear hdk hsk hlt hkm hup hup1 HA
        go_upto_region 6 with fail
        generalize wr.alloc (.cells #[.int .i64 dk, .int .i64 sk] 46) = W6 at *
        have zq := cell_lt q0
        have e2 := HA1.out.q2
        have ze := cell_lt e2
        go_wp2_with fail
        go_roundw
        case rel => exact ⟨k + 1, _, _, HK.out, rfl, by simp, Lib.hid (by rw [HUP1.out]; exact HA1.out)⟩
        case measure => have := HK.out; simp [intOf]; omega
    · obtain rfl : k = n := by omega
      have hki : ¬ ((k : Int) < k) := by omega
      rw [upTo_all HLG.out.1] at HA
      clear hlt hk
      obtain ⟨q, cq, rfl, hc1, hc2, hlq, hgq⟩ := own_leaps HA.out.own
      have HQ := Lib.hid (And.intro hc1 hc2)
      have HQG := Lib.hid hgq
      have HQZ := Lib.hid (own_leapsZ HA.out.own)
      have HL := Lib.hid (show LawE w w2.heap.size wr b u k c p a m cq q f f from ⟨HA.out.t, ⟨HA.out.q0, HA.out.q1, HA.out.q2⟩, HLP.out.below HA.out.bel, hlq, HW.out.below (bt HB2.out HA.out.bel), bt HB2.out HA.out.bel, fun _ g o e i => HQZ.out g o q cq m rfl e i⟩)
      clear hc1 hc2 hlq hgq HA hki
      have HQX := Lib.hid (show k ≤ c ∧ c ≤ maxLen from HC.out)
      have hu1' := haa.1
      have hmk : m ≤ k := HLG.out.1
      have HB := Lib.hid HT.out.tabE
      have HAE := Lib.hid HTA.out.tabE
      obtain ⟨s, hsb, hnr⟩ := near_ex HAE.out x z HX.out
      have HNR := Lib.hid hnr
      have KA := Lib.hid (known_in HAE.out hsb)
      have KB := Lib.hid (known_cut HT.out hsb haa.2 hmk HLG.out.2.2)
      obtain ⟨D, hD⟩ := known_day KA.out
      obtain ⟨hDB, hbeg⟩ := hD.cut haa.2 hmk HLG.out.2.2
      obtain ⟨ya, ka, ea, hca⟩ := civ_exists D (by have := hD.d1; have := hD.d2; omega)
      have HDA := Lib.hid (fun X (hX : Mon X) (hL : LpIn X f m q) => Dates_ok KA.out hD hca cq q X hX hL HQ.out.1 HQ.out.2)
      have HDT := Lib.hid (fun ct qt X (hX : Mon X) (hL : LpIn X f k qt) (h1 : k ≤ ct) (h2 : ct ≤ maxLen) => Dates_ok KB.out hDB hca ct qt X hX hL h1 h2)
      rw [hbeg] at HDT
      have HAA := Lib.hid (fun X (hX : Mon X) (hL : LpIn X f m q) => Atomic_ok KA.out cq q X hX hL HQ.out.1 HQ.out.2)
      have HAT := Lib.hid (fun ct qt X (hX : Mon X) (hL : LpIn X f k qt) (h1 : k ≤ ct) (h2 : ct ≤ maxLen) => Atomic_ok KB.out ct qt X hX hL h1 h2)
      have HTOT := Lib.hid (fun X (hX : Mon X) (hL : LpIn X f m q) => Total_any b a m cq q f X hX hL (by omega) HQ.out.1 HQ.out.2)
      rw [HAE.out, if_pos rfl] at HTOT
      have HEX := Lib.hid (fun X (hX : Mon X) (h1 : LpIn X f m q) (h2 : LpIn X f k p) => Extend_ok HAE.out HB.out haa.2 hmk HLG.out.2.1 (fun h => HLG.out.2.2 m (Nat.le_refl _) h) (eqF_refl f m) X hX h1 h2 HQ.out.1 HQX.out.1 HQX.out.2 (fun hp => by
        rcases h2 with h | ⟨_, _, e, _⟩
        · exact h
        · rw [hp] at e; cases e))
      have HKP := Lib.hid (fun ct qt X (h1 : LpIn X f k qt) (h2 : LpIn X f k p) => kept_yes b u f k ct c qt p X (by omega) h1 h2)
      have htp := HTA.out.total_pos
      obtain ⟨T, hT⟩ : ∃ T, beginS f m a = T := ⟨_, rfl⟩
      rw [hT] at HNR HTOT htp hsb
      have ht1 : ¬ T < 1 := by omega
      clear hT hnr
      obtain ⟨kai, hkai⟩ : ∃ q, (ka : Int) = q := ⟨_, rfl⟩
      rw [hkai] at HDA HDT
      generalize scS (s - beginS f m D) = sca at *
      generalize mnS (s - beginS f m D) = mna at *
      generalize hrS (s - beginS f m D) = hra at *
      obtain ⟨at1, hat1⟩ : ∃ q, s + b = q := ⟨_, rfl⟩
      rw [hat1] at HAA HAT
      clear hat1 hkai hD hDB hbeg hca KA KB
      have HPB := Lib.hid (show ∀ g' o', p = some ⟨g', o', none⟩ → 0 < k → g' < w2.heap.size from fun g' o' e hk0 => by
        rcases HLP.out with h | ⟨g1, o1, e1, hi⟩
        · omega
        · rw [e1] at e; cases e; exact cell_lt (hi 0 hk0).1)
      have HMB := Lib.hid (show 0 < w2.heap.size from cell_lt ((HW.out.below HB2.out) 0 (by decide)))
      have HSZ := Lib.hid (show w.heap.size ≤ w2.heap.size from HB2.out.size)
      generalize w2.heap.size = a9 at *
      have hm12 : m ≤ 12 := by omega
      clear HLP HCT
      obtain ⟨x0, x1, x2⟩ := HL.out.ta
      obtain ⟨z0, z1, z2⟩ := HL.out.tb
      have zx := cell_lt x0
      have zz := cell_lt z0
      go_upto_region 10 with (go_at_call 16; refine (HEX.out _ HL.out.mon HL.out.la HL.out.lb).mono ?_; rintro e v1 ⟨qt, ct', rfl, g1, g2, g3, hb⟩; have HL9 := Lib.hid (LawF.new (ct := ct') HL.out hb g3); have HQT := Lib.hid (And.intro g1 g2); clear hb HL g1 g2 g3)
      have HL := HL9
      clear x0 x1 x2 z0 z1 z2 zx zz HL9
      generalize v1.alloc (.cells #[.int .i64 b, .slice qt k ct', .int .i64 u] 43) = v1a at *
      obtain ⟨bt', hbt⟩ : ∃ q, v1.heap.size = q := ⟨_, rfl⟩
      rw [hbt] at HL ⊢
      clear hbt
      obtain ⟨x0, x1, x2⟩ := HL.out.e.ta
      have zx := cell_lt x0
      go_upto_region 11 with (go_at_call 17; refine (HTOT.out _ HL.out.e.mon HL.out.e.la).mono ?_; rintro e v2 ⟨rfl, hb⟩; have HL9 := Lib.hid (HL.out.below hb); clear hb HL)
      have HL := HL9
      clear x0 x1 x2 zx HL9
      obtain ⟨x0, x1, x2⟩ := HL.out.tt
      obtain ⟨z0, z1, z2⟩ := HL.out.e.tb
      have zx := cell_lt x0
      have zz := cell_lt z0
      go_upto_region 13 with (go_at_call 18; refine (HKP.out _ _ _ HL.out.lt HL.out.e.lb).mono ?_; rintro e v3 ⟨rfl, hb⟩; have HL9 := Lib.hid (HL.out.below hb); clear hb HL)
      have HL := HL9
      clear x0 x1 x2 z0 z1 z2 zx zz HL9
      obtain ⟨x0, x1, x2⟩ := HL.out.e.ta
      have zx := cell_lt x0
      go_upto_region 14 with (go_at_call 19; refine (HNR.out _ _ _ HL.out.e.mon HL.out.e.la HQ.out.1 HQ.out.2).mono ?_; rintro e v4 ⟨rfl, hb⟩; have HL9 := Lib.hid (HL.out.below hb); clear hb HL)
      have HL := HL9
      clear x0 x1 x2 zx HL9
      obtain ⟨x0, x1, x2⟩ := HL.out.e.ta
      have zx := cell_lt x0
      go_upto_region 15 with (go_at_call 20; refine (HDA.out _ HL.out.e.mon HL.out.e.la).mono ?_; rintro e v5 ⟨rfl, hb⟩; have HL9 := Lib.hid (HL.out.below hb); clear hb HL)
      have HL := HL9
      clear x0 x1 x2 zx HL9
      have hbx := below_alloc (Below.refl v5.heap.size v5) (.cells #[.int .i64 ya, .int .i64 kai, .int .i64 ea, .int .i64 hra, .int .i64 mna, .int .i64 sca] 33)
      have BD1 := Lib.hid (DBox.new v5 ya kai ea hra mna sca)
      have HL9 := Lib.hid (HL.out.below hbx)
      clear hbx HL
      have HL := HL9
      clear HL9
      generalize v5.alloc (.cells #[.int .i64 ya, .int .i64 kai, .int .i64 ea, .int .i64 hra, .int .i64 mna, .int .i64 sca] 33) = v5a at *
      obtain ⟨aD1, haD⟩ : ∃ q, v5.heap.size = q := ⟨_, rfl⟩
      rw [haD] at BD1 ⊢
      clear haD
      obtain ⟨x0, x1, x2⟩ := HL.out.tt
      have zx := cell_lt x0
      go_upto_region 16 with (go_at_call 20; refine (HDT.out _ _ _ HL.out.e.mon HL.out.lt HQT.out.1 HQT.out.2).mono ?_; rintro e v6 ⟨rfl, hb⟩; have HL9 := Lib.hid (HL.out.below hb); have BD9 := Lib.hid (BD1.out.below hb); clear hb HL)
      have HL := HL9
      clear x0 x1 x2 zx HL9
      clear BD1
      have hbx := below_alloc (Below.refl v6.heap.size v6) (.cells #[.int .i64 ya, .int .i64 kai, .int .i64 ea, .int .i64 hra, .int .i64 mna, .int .i64 sca] 33)
      have BD2 := Lib.hid (DBox.new v6 ya kai ea hra mna sca)
      have HL9 := Lib.hid (HL.out.below hbx)
      have BD1 := Lib.hid (BD9.out.below hbx)
      clear BD9
      clear hbx HL
      have HL := HL9
      clear HL9
      generalize v6.alloc (.cells #[.int .i64 ya, .int .i64 kai, .int .i64 ea, .int .i64 hra, .int .i64 mna, .int .i64 sca] 33) = v6a at *
      obtain ⟨aD2, haD⟩ : ∃ q, v6.heap.size = q := ⟨_, rfl⟩
      rw [haD] at BD2 ⊢
      clear haD
      obtain ⟨x0, x1, x2⟩ := HL.out.e.ta
      have zx := cell_lt x0
      go_upto_region 17 with (go_at_call 21; refine (HAA.out _ HL.out.e.mon HL.out.e.la).mono ?_; rintro e v7 ⟨rfl, hb⟩; have HL9 := Lib.hid (HL.out.below hb); have B19 := Lib.hid (BD1.out.below hb); have B29 := Lib.hid (BD2.out.below hb); clear hb HL)
      have HL := HL9
      clear x0 x1 x2 zx HL9
      clear BD1 BD2
      have BD1 := B19
      have BD2 := B29
      clear B19 B29
      obtain ⟨x0, x1, x2⟩ := HL.out.tt
      have zx := cell_lt x0
      go_upto_region 18 with (go_at_call 21; refine (HAT.out _ _ _ HL.out.e.mon HL.out.lt HQT.out.1 HQT.out.2).mono ?_; rintro e v8 ⟨rfl, hb⟩; have HL9 := Lib.hid (HL.out.below hb); have B19 := Lib.hid (BD1.out.below hb); have B29 := Lib.hid (BD2.out.below hb); clear hb HL)
      have HL := HL9
      clear x0 x1 x2 zx HL9
      clear BD1 BD2
      have BD1 := B19
      have BD2 := B29
      clear B19 B29
      obtain ⟨d0, d1, d2, d3, d4, d5⟩ := BD1.out
      obtain ⟨e0, e1, e2, e3, e4, e5⟩ := BD2.out
      have zd := cell_lt d0
      have ze := cell_lt e0
      go_upto_region 20 with fail
      clear d0 d1 d2 d3 d4 d5 e0 e1 e2 e3 e4 e5 zd ze BD1 BD2
      rcases Nat.eq_zero_or_pos m with h0 | h0
      · subst h0
        obtain ⟨x0, x1, x2⟩ := HL.out.e.ta
        have zx := cell_lt x0
        go_wp2_with fail
        refine (awake_any _ HL.out.e.mon).mono ?_
        rintro e va ⟨rfl, hb⟩
        have HBA := Lib.hid hb
        clear hb
        go_wp2
        go_ret
        exact ⟨rfl, bt HL.out.e.bel HBA.out⟩
      · have h0i : ((m : Int) == 0) = false := by simp; omega
        have h0j : ¬ (m : Int) = 0 := by omega
        have xw : IntKind.i64.wrap x = x := IntWalk.i64_in _ (by have := HX.out; omega)
        have hxm1 := Int.emod_nonneg x (show (m : Int) ≠ 0 by omega)
        have hxm2 := Int.emod_lt_of_pos x (show (0 : Int) < m by omega)
        obtain ⟨i, hi⟩ : ∃ i : Nat, x % (m : Int) = (i : Int) := ⟨(x % (m : Int)).toNat, by omega⟩
        have him : i < m := by omega
        have hii : (i : Int) < m := by omega
        have xm : x.tmod (m : Int) = (i : Int) := by rw [Int.tmod_eq_emod_of_nonneg (by have := HX.out; omega), hi]
        clear hxm1 hxm2 hi
        obtain ⟨g9, o9, rfl, hla⟩ := HL.out.e.la.resolve_left (by omega)
        have hg9 := HQG.out g9 o9 rfl
        have HFL := Lib.hid (HL.out.e.flip him hg9 HPB.out HMB.out HSZ.out)
        have hsi := HTA.out.s i him
        obtain ⟨y0, y1⟩ := hla i him
        have zy := cell_lt y0
        have yz := HL.out.e.z h0 g9 o9 rfl (o9 + i * 2 + 1)
        have HEL := Lib.hid (fun X (hX : Mon X) (h1 : LpIn X (flipS f i) m (some ⟨g9, o9, none⟩)) (h2 : LpIn X f k p) => Extend_leap (HTA.out.flip i).tabE HB.out haa.2 hmk HLG.out.2.1 (fun h => HLG.out.2.2 m (Nat.le_refl _) h) (eqF_flip him (HTA.out.s i him)) X hX h1 h2 HQ.out.1 HQX.out.1 HQX.out.2 (fun hp => by
          rcases h2 with h | ⟨_, _, e, _⟩
          · exact h
          · rw [hp] at e; cases e))
        have HIM := Lib.hid him
        clear hla him
        generalize (f i).2 = sk at *
        have xn : IntKind.i64.wrap (-sk) = -sk := IntWalk.i64_in _ (by omega)
        obtain ⟨x0, x1, x2⟩ := HL.out.e.ta
        have zx := cell_lt x0
        go_upto_region 23 with fail
        go_region
        have HFL := Lib.hid (HFL.out.below (Below.drew (Below.refl _ _)))
        generalize (v8.setCell ⟨g9, o9 + i * 2 + 1, none⟩ (.int .i64 (-sk))).drew = v9 at *
        clear y0 y1 zy yz x0 x1 x2 zx HL xn xm xw
        obtain ⟨x0, x1, x2⟩ := HFL.out.ta
        obtain ⟨z0, z1, z2⟩ := HFL.out.tb
        have zx := cell_lt x0
        have zz := cell_lt z0
        go_upto_region 25 with (go_at_call 16; refine (HEL.out _ HFL.out.mon HFL.out.la HFL.out.lb).mono ?_; rintro e v10 ⟨rfl, hb⟩; have HL9 := Lib.hid (HFL.out.below hb); clear hb HFL)
        clear x0 x1 x2 z0 z1 z2 zx zz
        go_wp2_with fail
        refine (awake_any _ HL9.out.mon).mono ?_
        rintro e va ⟨rfl, hb⟩
        have HBA := Lib.hid hb
        clear hb
        go_wp2
        go_ret
        exact ⟨rfl, bt HL9.out.bel HBA.out⟩

end Go.Proofs.YtnbccbjhnlggaaaDoor.Cal
