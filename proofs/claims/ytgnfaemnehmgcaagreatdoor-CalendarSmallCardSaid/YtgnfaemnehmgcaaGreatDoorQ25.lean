/-  ·  ·  -/
import Derived.Test.YtgnfaemnehmgcaaGreatDoorQ07
import Derived.Test.YtgnfaemnehmgcaaGreatDoorQ17
import Derived.Test.YtgnfaemnehmgcaaGreatDoorQ08
import Derived.Test.YtgnfaemnehmgcaaGreatDoorQ21
import Derived.Test.YtgnfaemnehmgcaaGreatDoorQ22
import Derived.Test.YtgnfaemnehmgcaaGreatDoorQ24
namespace Go.Proofs.YtgnfaemnehmgcaaGreatDoor.Cal
open Go Go.RowKit
attribute [local go_sem] Oper.semAt_some
def exF (k : Nat) : Int × Int := if k = 0 then (41498, 1) else (41682, 1)
theorem ex_tab : tabE 10 42000 2 exF = 0 := by kernel_rfl
theorem ex_day : dayN 2000 1 1 = 51544 := by kernel_rfl
theorem ex_wd : wd 51544 = 6 := by kernel_rfl
theorem ex_wy : weekY 51544 = 1999 := by kernel_rfl
theorem ex_wn : weekN 51544 = 52 := by kernel_rfl
theorem ex_mom : 1440 * dayN 1972 6 30 + 60 * 23 + 59 = 59758559 := by kernel_rfl
theorem ex_has : hasB 42000 exF 2 59758559 60 = true := by kernel_rfl
theorem ex_num : numS exF 2 59758559 60 = 15724800 := by kernel_rfl
theorem ex_found : foundL 42000 exF 2 (58445280 + 78796800 / 60) (78796800 % 60) 2 = [15724800, 15724801] := by kernel_rfl
theorem ex_date1 : IsDate 2000 1 1 := ⟨by decide, by decide, by decide, by decide, by decide, by have := dm_bd 2000 ((1 : Nat) : Int); omega⟩
theorem ex_dm : dm 1972 ((6 : Nat) : Int) = 30 := by kernel_rfl
theorem ex_date2 : IsDate 1972 6 30 := ⟨by decide, by decide, by decide, by decide, by decide, by rw [ex_dm]; decide⟩
theorem example_any (w : World) :
    Calls Tryz.prog 12 #[] w fun e w' => ∃ q, e = .returned (.agg #[.int .i64 10, .slice q 2 2, .int .i64 42000]) ∧ LpIn w' exF 2 q ∧ Below w.heap.size w w' := by
  go_enter Tryz.func12, Tryz.ntmps12
  go_wp2
  refine bodyPost_ret (v := .agg #[.int .i64 10, .slice (some ⟨w.heap.size + 1, 0, none⟩) 2 2, .int .i64 42000]) (by simp [results, Tryz.results12, go_sem]) rfl ⟨_, rfl, .inr ⟨w.heap.size + 1, 0, rfl, fun i hi => ?_⟩, below_alloc (below_alloc (Below.refl _ _) _) _⟩
  have : i = 0 ∨ i = 1 := by omega
  have e : (w.alloc (.cells #[.int .i64 10, .slice (some ⟨w.heap.size + 1, 0, none⟩) 2 2, .int .i64 42000] 24)).heap.size = w.heap.size + 1 := by simp
  generalize w.alloc (.cells #[.int .i64 10, .slice (some ⟨w.heap.size + 1, 0, none⟩) 2 2, .int .i64 42000] 24) = W at *
  rw [← e]
  rcases this with rfl | rfl <;> exact ⟨by simp; rfl, by simp; rfl⟩
theorem two_in (w : World) (x y : Int) : FnIn (w.alloc (.cells #[.int .i64 x, .int .i64 y] 3)) (atL [x, y]) 2 (some ⟨w.heap.size, 0, none⟩) := by
  refine .inr ⟨w.heap.size, 0, rfl, fun i hi => ?_⟩
  have : i = 0 ∨ i = 1 := by omega
  rcases this with rfl | rfl <;> (simp; rfl)
set_option maxRecDepth 100000 in
set_option maxHeartbeats 2000000 in
theorem awake_any (w : World) (hw : Mon w) : Calls Tryz.prog 6 #[] w fun e w' => e = .returned (.bool true) ∧ Below w.heap.size w w' := by
  have HD : Hid (Calls Tryz.prog 13 #[.int .i64 2000, .int .i64 1, .int .i64 1] w fun e w' => e = .returned (.tuple #[.int .i64 51544, .int .i64 0]) ∧ w = w') := Lib.hid (by
    have h := Day_ok w hw ex_date1
    rw [ex_day] at h
    exact h)
  have HWD := Lib.hid (Weekday_ok 51544 w (by decide))
  rw [ex_wd] at HWD
  have HWK := Lib.hid (Week_ok 51544 w (by decide))
  rw [ex_wy, ex_wn] at HWK
  have HSE : Hid (∀ (q : Option Addr) (X : World), Mon X → LpIn X exF 2 q → Calls Tryz.prog 25 #[.agg #[.int .i64 10, .slice q 2 2, .int .i64 42000], .agg #[.int .i64 1972, .int .i64 6, .int .i64 30, .int .i64 23, .int .i64 59, .int .i64 60]] X fun e w' => e = .returned (.tuple #[.int .i64 15724800, .int .i64 0]) ∧ Below X.heap.size X w') := Lib.hid (fun q X hX hq => by
    have h := Seconds_ok ex_tab ex_date2 23 59 60 (by kernel_rfl) (by kernel_rfl) (by kernel_rfl) (by rw [ex_mom]; exact ex_has) 2 q X hX hq (Nat.le_refl _) (by unfold maxLen; decide)
    rw [ex_mom, ex_num] at h
    exact h)
  have HFU : Hid (∀ (q : Option Addr) (X : World), Mon X → LpIn X exF 2 q → Calls Tryz.prog 26 #[.agg #[.int .i64 10, .slice q 2 2, .int .i64 42000], .int .i64 78796800] X fun e w' => ∃ r c, e = .returned (.tuple #[.slice r 2 c, .int .i64 0]) ∧ FnIn w' (atL [15724800, 15724801]) 2 r ∧ Below X.heap.size X w') := Lib.hid (fun q X hX hq => by
    have h := FromUnix_ok ex_tab 78796800 (by decide) 2 q X hX hq (Nat.le_refl _) (by unfold maxLen; decide) (by rw [ex_found]; decide)
    rw [ex_found] at h
    exact h)
  have HW := Lib.hid hw
  clear hw
  go_enter Tryz.func6, Tryz.ntmps6
  go_upto_region 4 with (first | (go_at_call 13; refine HD.out.mono ?_; rintro e w' ⟨rfl, rfl⟩) | (go_at_call 23; refine HWD.out.mono ?_; rintro e w' ⟨rfl, rfl⟩) | (go_at_call 24; refine HWK.out.mono ?_; rintro e w' ⟨rfl, rfl⟩))
  clear HD HWD HWK
  go_wp2_with fail
  refine (example_any _).mono ?_
  rintro e w1 ⟨q1, rfl, hl, hb1⟩
  have HL1 := Lib.hid hl
  have HB1 := Lib.hid hb1
  clear hl hb1
  go_wp2_with fail
  refine (HSE.out _ _ (HW.out.below HB1.out) HL1.out).mono ?_
  rintro e w2 ⟨rfl, hb⟩
  have HB2 := Lib.hid (bt HB1.out hb)
  clear hb
  go_wp2_with fail
  refine (example_any _).mono ?_
  rintro e w3 ⟨q3, rfl, hl, hb⟩
  have HL3 := Lib.hid hl
  have HB3 := Lib.hid (bt HB2.out hb)
  clear hl hb
  go_wp2_with fail
  refine (HFU.out _ _ (HW.out.below HB3.out) HL3.out).mono ?_
  rintro e w4 ⟨r, c, rfl, hf, hb⟩
  have HF4 := Lib.hid hf
  have HB4 := Lib.hid (bt HB3.out hb)
  clear hf hb
  go_wp2_with fail
  have HEQ := Lib.hid (equal_yes (atL [15724800, 15724801]) 2 c 2 r (some ⟨w4.heap.size, 0, none⟩) _ (by decide) (HF4.out.below (below_alloc (Below.refl _ _) (.cells #[.int .i64 15724800, .int .i64 15724801] 3))) (two_in w4 _ _))
  refine HEQ.out.mono ?_
  rintro e w5 ⟨rfl, hb⟩
  have HB5 := Lib.hid (bt (below_alloc HB4.out _) hb)
  clear hb
  go_wp2
  go_ret
  exact ⟨rfl, HB5.out⟩
end Go.Proofs.YtgnfaemnehmgcaaGreatDoor.Cal
namespace Go.Proofs.YtgnfaemnehmgcaaGreatDoor.Cal
open Go Go.RowKit
attribute [local go_sem] Oper.semAt_some
structure LawT (w X : World) (a9 : Nat) (b u : Int) (n c cq cr : Nat) (p q qr : Option Addr) (f : Nat → Int × Int) (y m d h mi s : Int) : Prop where
  t4 : TBox X w.heap.size b u n c p
  t6 : DBox X (w.heap.size + 1) y m d h mi s
  t9 : TBox X a9 b u n cq q
  t10 : TBox X (a9 + 1) b u n cr qr
  lp : LpIn X f n p
  lq : LpIn X f n q
  lr : LpIn X f n qr
  mon : Mon X
  bel : Below w.heap.size w X
theorem LawT.below {w X Y : World} {a9 : Nat} {b u : Int} {n c cq cr : Nat} {p q qr : Option Addr} {f : Nat → Int × Int} {y m d h mi s : Int} (k : LawT w X a9 b u n c cq cr p q qr f y m d h mi s) (hb : Below X.heap.size X Y) : LawT w Y a9 b u n c cq cr p q qr f y m d h mi s :=
  ⟨k.t4.below hb, k.t6.below hb, k.t9.below hb, k.t10.below hb, k.lp.below hb, k.lq.below hb, k.lr.below hb, k.mon.below hb, bt k.bel hb⟩
theorem lt_start (w : World) (b u : Int) (n c : Nat) (p : Option Addr) (y m d h mi s : Int) : TBox ((w.alloc (.cells #[.int .i64 b, .slice p n c, .int .i64 u] 24)).alloc (.cells #[.int .i64 y, .int .i64 m, .int .i64 d, .int .i64 h, .int .i64 mi, .int .i64 s] 26)) w.heap.size b u n c p ∧ DBox ((w.alloc (.cells #[.int .i64 b, .slice p n c, .int .i64 u] 24)).alloc (.cells #[.int .i64 y, .int .i64 m, .int .i64 d, .int .i64 h, .int .i64 mi, .int .i64 s] 26)) (w.heap.size + 1) y m d h mi s ∧ Below w.heap.size w ((w.alloc (.cells #[.int .i64 b, .slice p n c, .int .i64 u] 24)).alloc (.cells #[.int .i64 y, .int .i64 m, .int .i64 d, .int .i64 h, .int .i64 mi, .int .i64 s] 26)) := td_start w b u n c p y m d h mi s
theorem LawT.new {w w2 : World} {b u : Int} {n c cq cr : Nat} {p q qr : Option Addr} {f : Nat → Int × Int} {y m d h mi s : Int} (h4 : TBox w2 w.heap.size b u n c p) (h6 : DBox w2 (w.heap.size + 1) y m d h mi s) (lp : LpIn w2 f n p) (lq : LpIn w2 f n q) (lr : LpIn w2 f n qr) (mon : Mon w2) (bel : Below w.heap.size w w2) :
    LawT w ((w2.alloc (.cells #[.int .i64 b, .slice q n cq, .int .i64 u] 24)).alloc (.cells #[.int .i64 b, .slice qr n cr, .int .i64 u] 55)) w2.heap.size b u n c cq cr p q qr f y m d h mi s := by
  have b1 := below_alloc (Below.refl w2.heap.size w2) (.cells #[.int .i64 b, .slice q n cq, .int .i64 u] 24)
  have t9 := TBox.new w2 b u n cq q 24
  have e1 : (w2.alloc (.cells #[.int .i64 b, .slice q n cq, .int .i64 u] 24)).heap.size = w2.heap.size + 1 := by simp
  have h4 := h4.below b1
  have h6 := h6.below b1
  have lp := lp.below b1
  have lq := lq.below b1
  have lr := lr.below b1
  have mon := mon.below b1
  have bel := bt bel b1
  generalize w2.alloc (.cells #[.int .i64 b, .slice q n cq, .int .i64 u] 24) = W at *
  have b2 := below_alloc (Below.refl W.heap.size W) (.cells #[.int .i64 b, .slice qr n cr, .int .i64 u] 55)
  have t10 := TBox.new W b u n cr qr 55
  rw [e1] at t10
  exact ⟨h4.below b2, h6.below b2, t9.below b2, t10, lp.below b2, lq.below b2, lr.below b2, mon.below b2, bt bel b2⟩
set_option maxRecDepth 100000 in
set_option maxHeartbeats 8000000 in
theorem tables_any (b u : Int) (f : Nat → Int × Int) (n c : Nat) (p : Option Addr) (day y m d h mi s second : Int) (w : World) (hw : Mon w) (hn : n ≤ 120) (hp : p = none → n = 0) (hs : LpIn w f n p) :
    Calls Tryz.prog 9 #[.agg #[.int .i64 b, .slice p n c, .int .i64 u], .int .i64 day, .agg #[.int .i64 y, .int .i64 m, .int .i64 d, .int .i64 h, .int .i64 mi, .int .i64 s], .int .i64 second] w fun e w' => e = .returned (.bool true) ∧ Below w.heap.size w w' := by
  obtain ⟨ce, hce⟩ := chk_pair b u n f (by omega)
  obtain ⟨lx, le, hle⟩ := len_pair b u day n f (by omega)
  obtain ⟨ox, oe, hoe⟩ := off_pair b u day n f (by omega)
  obtain ⟨tx, te, hte⟩ := tot_pair b u n f (by omega)
  obtain ⟨sx, se, hse⟩ := sec_pair b u y m d h mi s n f (by omega)
  obtain ⟨dy, dm, dd, dh, dn, ds, de, hde⟩ := dat_pair b u second n f (by omega)
  obtain ⟨ax, ae, hae⟩ := atm_pair b u second n f (by omega)
  obtain ⟨nx, ne, hne⟩ := ann_pair b u second n f (by omega)
  have PC := Lib.hid hce
  have PL := Lib.hid hle
  have PO := Lib.hid hoe
  have PT := Lib.hid hte
  have PS := Lib.hid hse
  have PD := Lib.hid hde
  have PA := Lib.hid hae
  have PN := Lib.hid hne
  unfold Pair at PC PL PO PT PS PD PA PN
  obtain ⟨h4, h6, hb⟩ := lt_start w b u n c p y m d h mi s
  have H4 := Lib.hid h4
  have H6 := Lib.hid h6
  have A0 := Lib.hid hb
  have HS := Lib.hid (hs.below hb)
  have HW := Lib.hid (hw.below hb)
  have HCP := Lib.hid (copied_any b u f n c p _ (by omega) hp (hs.below hb))
  have HN := Lib.hid hn
  clear hce hle hoe hte hse hde hae hne h4 h6 hb hs hw hp hn
  go_enter Tryz.func9, Tryz.ntmps9
  go_upto_region 1 with fail
  generalize (w.alloc (.cells #[.int .i64 b, .slice p n c, .int .i64 u] 24)).alloc (.cells #[.int .i64 y, .int .i64 m, .int .i64 d, .int .i64 h, .int .i64 mi, .int .i64 s] 26) = W0 at *
  obtain ⟨x0, x1, x2⟩ := H4.out
  have zx := cell_lt x0
  go_upto_region 2 with (go_at_call 14; refine HCP.out.mono ?_; rintro e w2 ⟨q, cq, qr, cr, rfl, hq, hlq, hlr, hb2⟩; have HQ := Lib.hid hq; have HLW := Lib.hid (LawT.new (w := w) (cq := cq) (cr := cr) (H4.out.below hb2) (H6.out.below hb2) (HS.out.below hb2) hlq hlr (HW.out.below hb2) (bt A0.out hb2)); clear hq hlq hlr hb2)
  clear x0 x1 x2 zx
  generalize (w2.alloc (.cells #[.int .i64 b, .slice q n cq, .int .i64 u] 24)).alloc (.cells #[.int .i64 b, .slice qr n cr, .int .i64 u] 55) = X0 at *
  generalize w2.heap.size = a9 at *
  obtain ⟨x0, x1, x2⟩ := HLW.out.t9
  obtain ⟨z0, z1, z2⟩ := HLW.out.t10
  have zx := cell_lt x0
  have zz := cell_lt z0
  have HB0 := Lib.hid (Below.refl X0.heap.size X0)
  have HK := Lib.hid (show ∀ X, Below X0.heap.size X0 X → (fun w' => Below X0.heap.size X0 w' ∧ w'.cell? ⟨a9, 0, none⟩ = some (.int .i64 b) ∧ w'.cell? ⟨a9, 1, none⟩ = some (.slice q n cq) ∧ w'.cell? ⟨a9, 2, none⟩ = some (.int .i64 u) ∧ w'.cell? ⟨a9 + 1, 0, none⟩ = some (.int .i64 b) ∧ w'.cell? ⟨a9 + 1, 1, none⟩ = some (.slice qr n cr) ∧ w'.cell? ⟨a9 + 1, 2, none⟩ = some (.int .i64 u)) X from fun X h => ⟨h, cell_below h x0, cell_below h x1, cell_below h x2, cell_below h z0, cell_below h z1, cell_below h z2⟩)
  have HC1 := Lib.hid (fun X (hX : Below X0.heap.size X0 X) => Calls.bel hX (PC.out.1 X cq q (HLW.out.mon.below hX) (HLW.out.lq.below hX) HQ.out.1 HQ.out.2))
  have HC2 := Lib.hid (fun X (hX : Below X0.heap.size X0 X) => Calls.bel hX (PC.out.2 X cr qr (HLW.out.lr.below hX)))
  go_region_held3 (fun w' => Below X0.heap.size X0 w' ∧ w'.cell? ⟨a9, 0, none⟩ = some (.int .i64 b) ∧ w'.cell? ⟨a9, 1, none⟩ = some (.slice q n cq) ∧ w'.cell? ⟨a9, 2, none⟩ = some (.int .i64 u) ∧ w'.cell? ⟨a9 + 1, 0, none⟩ = some (.int .i64 b) ∧ w'.cell? ⟨a9 + 1, 1, none⟩ = some (.slice qr n cr) ∧ w'.cell? ⟨a9 + 1, 2, none⟩ = some (.int .i64 u))
    (exact HK.out _ (by first | assumption | exact HB0.out | exact Below.drew HB0.out | exact Below.drew (by assumption)))
    (first | (go_at_call 33; refine (HC1.out _ (by first | assumption | exact HB0.out | exact Below.drew HB0.out)).mono ?_; rintro e w3 ⟨rfl, hb3⟩) | (go_at_call 34; refine (HC2.out _ (by first | assumption | exact HB0.out | exact Below.drew HB0.out)).mono ?_; rintro e w3 ⟨rfl, hb3⟩))
  have HL := Lib.hid (HLW.out.below hb3)
  clear x0 x1 x2 z0 z1 z2 zx zz hb3 HK HC1 HC2 HB0 HCP
  obtain ⟨x0, x1, x2⟩ := HL.out.t9
  have zx := cell_lt x0
  have HF := Lib.hid (PL.out.1 w3 cq q HL.out.mon HL.out.lq HQ.out.1 HQ.out.2)
  go_upto_region 5 with (go_at_call 35; refine HF.out.mono ?_; rintro e v0 ⟨rfl, hb⟩; have HL9 := Lib.hid (HL.out.below hb); clear hb HL)
  clear x0 x1 x2 zx HF
  have HL := Lib.hid HL9.out
  clear HL9
  obtain ⟨x0, x1, x2⟩ := HL.out.t10
  have zx := cell_lt x0
  have HF := Lib.hid (PL.out.2 v0 cr qr HL.out.lr)
  go_upto_region 8 with (go_at_call 36; refine HF.out.mono ?_; rintro e v1 ⟨rfl, hb⟩; have HL9 := Lib.hid (HL.out.below hb); clear hb HL)
  clear x0 x1 x2 zx HF
  have HL := Lib.hid HL9.out
  clear HL9
  obtain ⟨x0, x1, x2⟩ := HL.out.t9
  have zx := cell_lt x0
  have HF := Lib.hid (PO.out.1 v1 cq q HL.out.mon HL.out.lq HQ.out.1 HQ.out.2)
  go_upto_region 9 with (go_at_call 37; refine HF.out.mono ?_; rintro e v2 ⟨rfl, hb⟩; have HL9 := Lib.hid (HL.out.below hb); clear hb HL)
  clear x0 x1 x2 zx HF
  have HL := Lib.hid HL9.out
  clear HL9
  obtain ⟨x0, x1, x2⟩ := HL.out.t10
  have zx := cell_lt x0
  have HF := Lib.hid (PO.out.2 v2 cr qr HL.out.lr)
  go_upto_region 12 with (go_at_call 38; refine HF.out.mono ?_; rintro e v3 ⟨rfl, hb⟩; have HL9 := Lib.hid (HL.out.below hb); clear hb HL)
  clear x0 x1 x2 zx HF
  have HL := Lib.hid HL9.out
  clear HL9
  obtain ⟨x0, x1, x2⟩ := HL.out.t9
  have zx := cell_lt x0
  have HF := Lib.hid (PT.out.1 v3 cq q HL.out.mon HL.out.lq HQ.out.1 HQ.out.2)
  go_upto_region 13 with (go_at_call 39; refine HF.out.mono ?_; rintro e v4 ⟨rfl, hb⟩; have HL9 := Lib.hid (HL.out.below hb); clear hb HL)
  clear x0 x1 x2 zx HF
  have HL := Lib.hid HL9.out
  clear HL9
  obtain ⟨x0, x1, x2⟩ := HL.out.t10
  have zx := cell_lt x0
  have HF := Lib.hid (PT.out.2 v4 cr qr HL.out.lr)
  go_upto_region 16 with (go_at_call 40; refine HF.out.mono ?_; rintro e v5 ⟨rfl, hb⟩; have HL9 := Lib.hid (HL.out.below hb); clear hb HL)
  clear x0 x1 x2 zx HF
  have HL := Lib.hid HL9.out
  clear HL9
  obtain ⟨x0, x1, x2⟩ := HL.out.t9
  have zx := cell_lt x0
  obtain ⟨d0, d1, d2, d3, d4, d5⟩ := HL.out.t6
  have zd := cell_lt d0
  have HF := Lib.hid (PS.out.1 v5 cq q HL.out.mon HL.out.lq HQ.out.1 HQ.out.2)
  go_upto_region 17 with (go_at_call 25; refine HF.out.mono ?_; rintro e v6 ⟨rfl, hb⟩; have HL9 := Lib.hid (HL.out.below hb); clear hb HL)
  clear x0 x1 x2 zx HF d0 d1 d2 d3 d4 d5 zd
  have HL := Lib.hid HL9.out
  clear HL9
  obtain ⟨x0, x1, x2⟩ := HL.out.t10
  have zx := cell_lt x0
  obtain ⟨d0, d1, d2, d3, d4, d5⟩ := HL.out.t6
  have zd := cell_lt d0
  have HF := Lib.hid (PS.out.2 v6 cr qr HL.out.lr)
  go_upto_region 20 with (go_at_call 41; refine HF.out.mono ?_; rintro e v7 ⟨rfl, hb⟩; have HL9 := Lib.hid (HL.out.below hb); clear hb HL)
  clear x0 x1 x2 zx HF d0 d1 d2 d3 d4 d5 zd
  have HL := Lib.hid HL9.out
  clear HL9
  obtain ⟨x0, x1, x2⟩ := HL.out.t9
  have zx := cell_lt x0
  have HF := Lib.hid (PD.out.1 v7 cq q HL.out.mon HL.out.lq HQ.out.1 HQ.out.2)
  go_upto_region 21 with (go_at_call 42; refine HF.out.mono ?_; rintro e v8 ⟨rfl, hb⟩; have HL9 := Lib.hid (HL.out.below hb); clear hb HL)
  clear x0 x1 x2 zx HF
  have hbx := below_alloc (Below.refl v8.heap.size v8) (.cells #[.int .i64 dy, .int .i64 dm, .int .i64 dd, .int .i64 dh, .int .i64 dn, .int .i64 ds] 26)
  have HDX := Lib.hid (DBox.new v8 dy dm dd dh dn ds)
  have HL := Lib.hid (HL9.out.below hbx)
  clear hbx HL9
  generalize v8.alloc (.cells #[.int .i64 dy, .int .i64 dm, .int .i64 dd, .int .i64 dh, .int .i64 dn, .int .i64 ds] 26) = v8a at *
  obtain ⟨x0, x1, x2⟩ := HL.out.t10
  have zx := cell_lt x0
  have HF := Lib.hid (PD.out.2 v8a cr qr HL.out.lr)
  go_upto_region 22 with (go_at_call 43; refine HF.out.mono ?_; rintro e v9 ⟨rfl, hb⟩; have HL9 := Lib.hid (HL.out.below hb); have HD9 := Lib.hid (HDX.out.below hb); clear hb HL)
  clear x0 x1 x2 zx HF
  have hbx := below_alloc (Below.refl v9.heap.size v9) (.cells #[.int .i64 dy, .int .i64 dm, .int .i64 dd, .int .i64 dh, .int .i64 dn, .int .i64 ds] 67)
  obtain ⟨d0, d1, d2, d3, d4, d5⟩ := HD9.out.below hbx
  have e0 : (v9.alloc (.cells #[.int .i64 dy, .int .i64 dm, .int .i64 dd, .int .i64 dh, .int .i64 dn, .int .i64 ds] 67)).cell? ⟨v9.heap.size, 0, none⟩ = some (.int .i64 dy) ∧ (v9.alloc (.cells #[.int .i64 dy, .int .i64 dm, .int .i64 dd, .int .i64 dh, .int .i64 dn, .int .i64 ds] 67)).cell? ⟨v9.heap.size, 1, none⟩ = some (.int .i64 dm) ∧ (v9.alloc (.cells #[.int .i64 dy, .int .i64 dm, .int .i64 dd, .int .i64 dh, .int .i64 dn, .int .i64 ds] 67)).cell? ⟨v9.heap.size, 2, none⟩ = some (.int .i64 dd) ∧ (v9.alloc (.cells #[.int .i64 dy, .int .i64 dm, .int .i64 dd, .int .i64 dh, .int .i64 dn, .int .i64 ds] 67)).cell? ⟨v9.heap.size, 3, none⟩ = some (.int .i64 dh) ∧ (v9.alloc (.cells #[.int .i64 dy, .int .i64 dm, .int .i64 dd, .int .i64 dh, .int .i64 dn, .int .i64 ds] 67)).cell? ⟨v9.heap.size, 4, none⟩ = some (.int .i64 dn) ∧ (v9.alloc (.cells #[.int .i64 dy, .int .i64 dm, .int .i64 dd, .int .i64 dh, .int .i64 dn, .int .i64 ds] 67)).cell? ⟨v9.heap.size, 5, none⟩ = some (.int .i64 ds) := ⟨by simp, by simp, by simp, by simp, by simp, by simp⟩
  obtain ⟨e0, e1, e2, e3, e4, e5⟩ := e0
  have HL := Lib.hid (HL9.out.below hbx)
  clear hbx HL9 HD9 HDX
  generalize v9.alloc (.cells #[.int .i64 dy, .int .i64 dm, .int .i64 dd, .int .i64 dh, .int .i64 dn, .int .i64 ds] 67) = v9a at *
  have zd := cell_lt d0
  have ze := cell_lt e0
  go_upto_region 24 with fail
  clear d0 d1 d2 d3 d4 d5 e0 e1 e2 e3 e4 e5 zd ze
  obtain ⟨x0, x1, x2⟩ := HL.out.t9
  have zx := cell_lt x0
  have HF := Lib.hid (PA.out.1 v9a cq q HL.out.mon HL.out.lq HQ.out.1 HQ.out.2)
  go_upto_region 25 with (go_at_call 44; refine HF.out.mono ?_; rintro e v10 ⟨rfl, hb⟩; have HL9 := Lib.hid (HL.out.below hb); clear hb HL)
  clear x0 x1 x2 zx HF
  have HL := Lib.hid HL9.out
  clear HL9
  obtain ⟨x0, x1, x2⟩ := HL.out.t10
  have zx := cell_lt x0
  have HF := Lib.hid (PA.out.2 v10 cr qr HL.out.lr)
  go_upto_region 28 with (go_at_call 45; refine HF.out.mono ?_; rintro e v11 ⟨rfl, hb⟩; have HL9 := Lib.hid (HL.out.below hb); clear hb HL)
  clear x0 x1 x2 zx HF
  have HL := Lib.hid HL9.out
  clear HL9
  obtain ⟨x0, x1, x2⟩ := HL.out.t9
  have zx := cell_lt x0
  have HF := Lib.hid (PN.out.1 v11 cq q HL.out.mon HL.out.lq HQ.out.1 HQ.out.2)
  go_upto_region 29 with (go_at_call 46; refine HF.out.mono ?_; rintro e v12 ⟨rfl, hb⟩; have HL9 := Lib.hid (HL.out.below hb); clear hb HL)
  clear x0 x1 x2 zx HF
  have HL := Lib.hid HL9.out
  clear HL9
  obtain ⟨x0, x1, x2⟩ := HL.out.t10
  have zx := cell_lt x0
  have HF := Lib.hid (PN.out.2 v12 cr qr HL.out.lr)
  go_upto_region 30 with (go_at_call 47; refine HF.out.mono ?_; rintro e v13 ⟨rfl, hb⟩; have HL9 := Lib.hid (HL.out.below hb); clear hb HL)
  clear x0 x1 x2 zx HF
  have HL := Lib.hid HL9.out
  clear HL9
  obtain ⟨x0, x1, x2⟩ := HL.out.t9
  obtain ⟨z0, z1, z2⟩ := HL.out.t4
  have zx := cell_lt x0
  have zz := cell_lt z0
  have HKP := Lib.hid (kept_yes b u f n cq c q p v13 (by have := HN.out; omega) HL.out.lq HL.out.lp)
  go_wp2_with (go_at_call 18; refine HKP.out.mono ?_; rintro e vz ⟨rfl, hb⟩; have HLZ := Lib.hid (HL.out.below hb); clear hb)
  go_ret
  exact ⟨rfl, HLZ.out.bel⟩
end Go.Proofs.YtgnfaemnehmgcaaGreatDoor.Cal
namespace Go.Proofs.YtgnfaemnehmgcaaGreatDoor.Cal
open Go Go.RowKit
attribute [local go_sem] Oper.semAt_some
structure LawC (w X : World) (a9 : Nat) (b u : Int) (n c cq cr : Nat) (p q qr : Option Addr) (f : Nat → Int × Int) (E S G Z : Int) : Prop where
  t4 : TBox X w.heap.size b u n c p
  x8 : (X.cell? ⟨w.heap.size + 1, 0, none⟩ = some (.int .i64 E) ∧ X.cell? ⟨w.heap.size + 1, 1, none⟩ = some (.int .i64 S))
  g9 : (X.cell? ⟨w.heap.size + 2, 0, none⟩ = some (.int .i64 G) ∧ X.cell? ⟨w.heap.size + 2, 1, none⟩ = some (.int .i64 Z))
  t9 : TBox X a9 b u n cq q
  t10 : TBox X (a9 + 1) b u n cr qr
  lp : LpIn X f n p
  lq : LpIn X f n q
  lr : LpIn X f n qr
  mon : Mon X
  bel : Below w.heap.size w X
theorem LawC.below {w X Y : World} {a9 : Nat} {b u : Int} {n c cq cr : Nat} {p q qr : Option Addr} {f : Nat → Int × Int} {E S G Z : Int} (k : LawC w X a9 b u n c cq cr p q qr f E S G Z) (hb : Below X.heap.size X Y) : LawC w Y a9 b u n c cq cr p q qr f E S G Z :=
  ⟨k.t4.below hb, ⟨cell_below hb k.x8.1, cell_below hb k.x8.2⟩, ⟨cell_below hb k.g9.1, cell_below hb k.g9.2⟩, k.t9.below hb, k.t10.below hb, k.lp.below hb, k.lq.below hb, k.lr.below hb, k.mon.below hb, bt k.bel hb⟩
theorem lc_start (w : World) (b u : Int) (n c : Nat) (p : Option Addr) (E S G Z : Int) : TBox (((w.alloc (.cells #[.int .i64 b, .slice p n c, .int .i64 u] 24)).alloc (.cells #[.int .i64 E, .int .i64 S] 42)).alloc (.cells #[.int .i64 G, .int .i64 Z] 44)) w.heap.size b u n c p ∧ ((((w.alloc (.cells #[.int .i64 b, .slice p n c, .int .i64 u] 24)).alloc (.cells #[.int .i64 E, .int .i64 S] 42)).alloc (.cells #[.int .i64 G, .int .i64 Z] 44)).cell? ⟨w.heap.size + 1, 0, none⟩ = some (.int .i64 E) ∧ (((w.alloc (.cells #[.int .i64 b, .slice p n c, .int .i64 u] 24)).alloc (.cells #[.int .i64 E, .int .i64 S] 42)).alloc (.cells #[.int .i64 G, .int .i64 Z] 44)).cell? ⟨w.heap.size + 1, 1, none⟩ = some (.int .i64 S)) ∧ ((((w.alloc (.cells #[.int .i64 b, .slice p n c, .int .i64 u] 24)).alloc (.cells #[.int .i64 E, .int .i64 S] 42)).alloc (.cells #[.int .i64 G, .int .i64 Z] 44)).cell? ⟨w.heap.size + 2, 0, none⟩ = some (.int .i64 G) ∧ (((w.alloc (.cells #[.int .i64 b, .slice p n c, .int .i64 u] 24)).alloc (.cells #[.int .i64 E, .int .i64 S] 42)).alloc (.cells #[.int .i64 G, .int .i64 Z] 44)).cell? ⟨w.heap.size + 2, 1, none⟩ = some (.int .i64 Z)) ∧ Below w.heap.size w (((w.alloc (.cells #[.int .i64 b, .slice p n c, .int .i64 u] 24)).alloc (.cells #[.int .i64 E, .int .i64 S] 42)).alloc (.cells #[.int .i64 G, .int .i64 Z] 44)) := by
  have b1 := below_alloc (Below.refl w.heap.size w) (.cells #[.int .i64 b, .slice p n c, .int .i64 u] 24)
  have t := TBox.new w b u n c p 24
  have e1 : (w.alloc (.cells #[.int .i64 b, .slice p n c, .int .i64 u] 24)).heap.size = w.heap.size + 1 := by simp
  generalize w.alloc (.cells #[.int .i64 b, .slice p n c, .int .i64 u] 24) = W1 at *
  have b2 := below_alloc (Below.refl W1.heap.size W1) (.cells #[.int .i64 E, .int .i64 S] 42)
  have h2 := two_cells W1 (.int .i64 E) (.int .i64 S) 42
  have e2 : (W1.alloc (.cells #[.int .i64 E, .int .i64 S] 42)).heap.size = w.heap.size + 2 := by simp [e1]
  rw [e1] at h2
  generalize W1.alloc (.cells #[.int .i64 E, .int .i64 S] 42) = W2 at *
  have b3 := below_alloc (Below.refl W2.heap.size W2) (.cells #[.int .i64 G, .int .i64 Z] 44)
  have h3 := two_cells W2 (.int .i64 G) (.int .i64 Z) 44
  rw [e2] at h3
  exact ⟨(t.below b2).below b3, ⟨cell_below b3 h2.1, cell_below b3 h2.2⟩, h3, bt (bt b1 b2) b3⟩
theorem LawC.new {w w2 : World} {b u : Int} {n c cq cr : Nat} {p q qr : Option Addr} {f : Nat → Int × Int} {E S G Z : Int} (h4 : TBox w2 w.heap.size b u n c p) (h8 : (w2.cell? ⟨w.heap.size + 1, 0, none⟩ = some (.int .i64 E) ∧ w2.cell? ⟨w.heap.size + 1, 1, none⟩ = some (.int .i64 S))) (h9 : (w2.cell? ⟨w.heap.size + 2, 0, none⟩ = some (.int .i64 G) ∧ w2.cell? ⟨w.heap.size + 2, 1, none⟩ = some (.int .i64 Z))) (lp : LpIn w2 f n p) (lq : LpIn w2 f n q) (lr : LpIn w2 f n qr) (mon : Mon w2) (bel : Below w.heap.size w w2) :
    LawC w ((w2.alloc (.cells #[.int .i64 b, .slice q n cq, .int .i64 u] 24)).alloc (.cells #[.int .i64 b, .slice qr n cr, .int .i64 u] 55)) w2.heap.size b u n c cq cr p q qr f E S G Z := by
  have b1 := below_alloc (Below.refl w2.heap.size w2) (.cells #[.int .i64 b, .slice q n cq, .int .i64 u] 24)
  have t9 := TBox.new w2 b u n cq q 24
  have e1 : (w2.alloc (.cells #[.int .i64 b, .slice q n cq, .int .i64 u] 24)).heap.size = w2.heap.size + 1 := by simp
  have h4 := h4.below b1
  have h8 := And.intro (cell_below b1 h8.1) (cell_below b1 h8.2)
  have h9 := And.intro (cell_below b1 h9.1) (cell_below b1 h9.2)
  have lp := lp.below b1
  have lq := lq.below b1
  have lr := lr.below b1
  have mon := mon.below b1
  have bel := bt bel b1
  generalize w2.alloc (.cells #[.int .i64 b, .slice q n cq, .int .i64 u] 24) = W at *
  have b2 := below_alloc (Below.refl W.heap.size W) (.cells #[.int .i64 b, .slice qr n cr, .int .i64 u] 55)
  have t10 := TBox.new W b u n cr qr 55
  rw [e1] at t10
  exact ⟨h4.below b2, ⟨cell_below b2 h8.1, cell_below b2 h8.2⟩, ⟨cell_below b2 h9.1, cell_below b2 h9.2⟩, t9.below b2, t10, lp.below b2, lq.below b2, lr.below b2, mon.below b2, bt bel b2⟩
set_option maxRecDepth 100000 in
set_option maxHeartbeats 8000000 in
theorem codes_any (b u : Int) (f : Nat → Int × Int) (n c : Nat) (p : Option Addr) (second unix E S G Z : Int) (hU : -9223372036854775808 ≤ unix ∧ unix ≤ 9223372036854775807) (w : World) (hw : Mon w) (hn : n ≤ 120) (hp : p = none → n = 0) (hs : LpIn w f n p) :
    Calls Tryz.prog 10 #[.agg #[.int .i64 b, .slice p n c, .int .i64 u], .int .i64 second, .int .i64 unix, .agg #[.int .i64 E, .int .i64 S], .agg #[.int .i64 G, .int .i64 Z]] w fun e w' => e = .returned (.bool true) ∧ Below w.heap.size w w' := by
  obtain ⟨ux, ue, hue⟩ := un_pair b u second n f (by omega)
  obtain ⟨LU, le, hlu, hle⟩ := fu_pair b u unix hU n f (by omega)
  obtain ⟨tx, ty, te, hte⟩ := tn_pair b u second n f (by omega)
  obtain ⟨LN, ne, hln, hne⟩ := fn_pair b u E S n f (by omega)
  obtain ⟨gx, gy, ge, hge⟩ := tg_pair b u second n f (by omega)
  obtain ⟨fx, fe, hfe⟩ := fg_pair b u G Z second n f (by omega)
  have PU := Lib.hid hue
  have PF := Lib.hid hle
  have PT := Lib.hid hte
  have PN := Lib.hid hne
  have PG := Lib.hid hge
  have PH := Lib.hid hfe
  unfold Pair at PU PT PG PH
  unfold PairL at PF PN
  obtain ⟨h4, h8, h9, hb⟩ := lc_start w b u n c p E S G Z
  have H4 := Lib.hid h4
  have H8 := Lib.hid h8
  have H9 := Lib.hid h9
  have A0 := Lib.hid hb
  have HS := Lib.hid (hs.below hb)
  have HW := Lib.hid (hw.below hb)
  have HCP := Lib.hid (copied_any b u f n c p _ (by omega) hp (hs.below hb))
  have HN := Lib.hid hn
  have HLU := Lib.hid hlu
  have HLN := Lib.hid hln
  clear hue hle hte hne hge hfe h4 h8 h9 hb hs hw hp hn hU hlu hln
  go_enter Tryz.func10, Tryz.ntmps10
  go_upto_region 1 with fail
  generalize ((w.alloc (.cells #[.int .i64 b, .slice p n c, .int .i64 u] 24)).alloc (.cells #[.int .i64 E, .int .i64 S] 42)).alloc (.cells #[.int .i64 G, .int .i64 Z] 44) = W0 at *
  obtain ⟨x0, x1, x2⟩ := H4.out
  have zx := cell_lt x0
  go_upto_region 2 with (go_at_call 14; refine HCP.out.mono ?_; rintro e w2 ⟨q, cq, qr, cr, rfl, hq, hlq, hlr, hb2⟩; have HQ := Lib.hid hq; have HL := Lib.hid (LawC.new (w := w) (cq := cq) (cr := cr) (H4.out.below hb2) ⟨cell_below hb2 H8.out.1, cell_below hb2 H8.out.2⟩ ⟨cell_below hb2 H9.out.1, cell_below hb2 H9.out.2⟩ (HS.out.below hb2) hlq hlr (HW.out.below hb2) (bt A0.out hb2)); clear hq hlq hlr hb2)
  clear x0 x1 x2 zx HCP
  generalize (w2.alloc (.cells #[.int .i64 b, .slice q n cq, .int .i64 u] 24)).alloc (.cells #[.int .i64 b, .slice qr n cr, .int .i64 u] 55) = X0 at *
  generalize w2.heap.size = a9 at *
  obtain ⟨x0, x1, x2⟩ := HL.out.t9
  have zx := cell_lt x0
  have HF := Lib.hid (PU.out.1 X0 cq q HL.out.mon HL.out.lq HQ.out.1 HQ.out.2)
  go_upto_region 3 with (go_at_call 48; refine HF.out.mono ?_; rintro e v0 ⟨rfl, hb⟩; have HL9 := Lib.hid (HL.out.below hb); clear hb HL)
  clear x0 x1 x2 zx HF
  have HL := Lib.hid HL9.out
  clear HL9
  obtain ⟨x0, x1, x2⟩ := HL.out.t10
  have zx := cell_lt x0
  have HF := Lib.hid (PU.out.2 v0 cr qr HL.out.lr)
  go_upto_region 6 with (go_at_call 49; refine HF.out.mono ?_; rintro e v1 ⟨rfl, hb⟩; have HL9 := Lib.hid (HL.out.below hb); clear hb HL)
  clear x0 x1 x2 zx HF
  have HL := Lib.hid HL9.out
  clear HL9
  obtain ⟨x0, x1, x2⟩ := HL.out.t9
  have zx := cell_lt x0
  have HF := Lib.hid (PF.out.1 v1 cq q HL.out.mon HL.out.lq HQ.out.1 HQ.out.2)
  go_upto_region 7 with (go_at_call 26; refine HF.out.mono ?_; rintro e v2 ⟨pov2, cov2, rfl, hl, hb⟩; have HAo9 := Lib.hid hl; clear hl; have HL9 := Lib.hid (HL.out.below hb); clear hb HL)
  clear x0 x1 x2 zx HF
  have HL := Lib.hid HL9.out
  clear HL9
  obtain ⟨x0, x1, x2⟩ := HL.out.t10
  have zx := cell_lt x0
  have HF := Lib.hid (PF.out.2 v2 cr qr HL.out.lr)
  go_upto_region 8 with (go_at_call 50; refine HF.out.mono ?_; rintro e v3 ⟨prv3, crv3, rfl, hl, hb⟩; have HAr9 := Lib.hid hl; clear hl; have HL9 := Lib.hid (HL.out.below hb); have HAo99 := Lib.hid (HAo9.out.below hb); clear HAo9; clear hb HL)
  clear x0 x1 x2 zx HF
  have HL := Lib.hid HL9.out
  clear HL9
  have HF := Lib.hid (equal_yes (atL LU) LU.length cov2 crv3 pov2 prv3 v3 (by have := HLU.out; omega) HAo99.out HAr9.out)
  go_upto_region 10 with (go_at_call 27; refine HF.out.mono ?_; rintro e v4 ⟨rfl, hb⟩; have HL9 := Lib.hid (HL.out.below hb); clear hb HL)
  clear HF HAo99 HAr9
  have HL := Lib.hid HL9.out
  clear HL9
  obtain ⟨x0, x1, x2⟩ := HL.out.t9
  have zx := cell_lt x0
  have HF := Lib.hid (PT.out.1 v4 cq q HL.out.mon HL.out.lq HQ.out.1 HQ.out.2)
  go_upto_region 11 with (go_at_call 51; refine HF.out.mono ?_; rintro e v5 ⟨rfl, hb⟩; have HL9 := Lib.hid (HL.out.below hb); clear hb HL)
  clear x0 x1 x2 zx HF
  have HL := Lib.hid HL9.out
  clear HL9
  have hbx := below_alloc (Below.refl v5.heap.size v5) (.cells #[.int .i64 tx, .int .i64 ty] 42)
  have HDX := Lib.hid (two_cells v5 (.int .i64 tx) (.int .i64 ty) 42)
  have HL9 := Lib.hid (HL.out.below hbx)
  clear hbx HL
  have HL := Lib.hid HL9.out
  clear HL9
  generalize v5.alloc (.cells #[.int .i64 tx, .int .i64 ty] 42) = v5a at *
  generalize v5.heap.size = v5s at *
  obtain ⟨x0, x1, x2⟩ := HL.out.t10
  have zx := cell_lt x0
  have HF := Lib.hid (PT.out.2 v5a cr qr HL.out.lr)
  go_upto_region 12 with (go_at_call 52; refine HF.out.mono ?_; rintro e v6 ⟨rfl, hb⟩; have HL9 := Lib.hid (HL.out.below hb); have HDX9 := Lib.hid (show _ ∧ _ from ⟨cell_below hb HDX.out.1, cell_below hb HDX.out.2⟩); clear HDX; clear hb HL)
  clear x0 x1 x2 zx HF
  have HL := Lib.hid HL9.out
  clear HL9
  have hbx := below_alloc (Below.refl v6.heap.size v6) (.cells #[.int .i64 tx, .int .i64 ty] 94)
  obtain ⟨e0, e1⟩ := two_cells v6 (.int .i64 tx) (.int .i64 ty) 94
  have d0 := cell_below hbx HDX9.out.1
  have d1 := cell_below hbx HDX9.out.2
  have HL9 := Lib.hid (HL.out.below hbx)
  clear hbx HL HDX9
  have HL := Lib.hid HL9.out
  clear HL9
  generalize v6.alloc (.cells #[.int .i64 tx, .int .i64 ty] 94) = v6a at *
  generalize v6.heap.size = v6s at *
  have zd := cell_lt d0
  have ze := cell_lt e0
  go_upto_region 14 with fail
  clear d0 d1 e0 e1 zd ze
  obtain ⟨x0, x1, x2⟩ := HL.out.t9
  have zx := cell_lt x0
  obtain ⟨d0, d1⟩ := HL.out.x8
  have zd := cell_lt d0
  have HF := Lib.hid (PN.out.1 v6a cq q HL.out.mon HL.out.lq HQ.out.1 HQ.out.2)
  go_upto_region 15 with (go_at_call 53; refine HF.out.mono ?_; rintro e v7 ⟨pov7, cov7, rfl, hl, hb⟩; have HAo9 := Lib.hid hl; clear hl; have HL9 := Lib.hid (HL.out.below hb); clear hb HL)
  clear x0 x1 x2 zx HF d0 d1 zd
  have HL := Lib.hid HL9.out
  clear HL9
  obtain ⟨x0, x1, x2⟩ := HL.out.t10
  have zx := cell_lt x0
  obtain ⟨d0, d1⟩ := HL.out.x8
  have zd := cell_lt d0
  have HF := Lib.hid (PN.out.2 v7 cr qr HL.out.lr)
  go_upto_region 16 with (go_at_call 54; refine HF.out.mono ?_; rintro e v8 ⟨prv8, crv8, rfl, hl, hb⟩; have HAr9 := Lib.hid hl; clear hl; have HL9 := Lib.hid (HL.out.below hb); have HAo99 := Lib.hid (HAo9.out.below hb); clear HAo9; clear hb HL)
  clear x0 x1 x2 zx HF d0 d1 zd
  have HL := Lib.hid HL9.out
  clear HL9
  have HF := Lib.hid (equal_yes (atL LN) LN.length cov7 crv8 pov7 prv8 v8 (by have := HLN.out; omega) HAo99.out HAr9.out)
  go_upto_region 18 with (go_at_call 27; refine HF.out.mono ?_; rintro e v9 ⟨rfl, hb⟩; have HL9 := Lib.hid (HL.out.below hb); clear hb HL)
  clear HF HAo99 HAr9
  have HL := Lib.hid HL9.out
  clear HL9
  obtain ⟨x0, x1, x2⟩ := HL.out.t9
  have zx := cell_lt x0
  have HF := Lib.hid (PG.out.1 v9 cq q HL.out.mon HL.out.lq HQ.out.1 HQ.out.2)
  go_upto_region 19 with (go_at_call 55; refine HF.out.mono ?_; rintro e va ⟨rfl, hb⟩; have HL9 := Lib.hid (HL.out.below hb); clear hb HL)
  clear x0 x1 x2 zx HF
  have HL := Lib.hid HL9.out
  clear HL9
  have hbx := below_alloc (Below.refl va.heap.size va) (.cells #[.int .i64 gx, .int .i64 gy] 44)
  have HDX := Lib.hid (two_cells va (.int .i64 gx) (.int .i64 gy) 44)
  have HL9 := Lib.hid (HL.out.below hbx)
  clear hbx HL
  have HL := Lib.hid HL9.out
  clear HL9
  generalize va.alloc (.cells #[.int .i64 gx, .int .i64 gy] 44) = vaa at *
  generalize va.heap.size = vas at *
  obtain ⟨x0, x1, x2⟩ := HL.out.t10
  have zx := cell_lt x0
  have HF := Lib.hid (PG.out.2 vaa cr qr HL.out.lr)
  go_upto_region 20 with (go_at_call 56; refine HF.out.mono ?_; rintro e vb ⟨rfl, hb⟩; have HL9 := Lib.hid (HL.out.below hb); have HDX9 := Lib.hid (show _ ∧ _ from ⟨cell_below hb HDX.out.1, cell_below hb HDX.out.2⟩); clear HDX; clear hb HL)
  clear x0 x1 x2 zx HF
  have HL := Lib.hid HL9.out
  clear HL9
  have hbx := below_alloc (Below.refl vb.heap.size vb) (.cells #[.int .i64 gx, .int .i64 gy] 101)
  obtain ⟨e0, e1⟩ := two_cells vb (.int .i64 gx) (.int .i64 gy) 101
  have d0 := cell_below hbx HDX9.out.1
  have d1 := cell_below hbx HDX9.out.2
  have HL9 := Lib.hid (HL.out.below hbx)
  clear hbx HL HDX9
  have HL := Lib.hid HL9.out
  clear HL9
  generalize vb.alloc (.cells #[.int .i64 gx, .int .i64 gy] 101) = vba at *
  generalize vb.heap.size = vbs at *
  have zd := cell_lt d0
  have ze := cell_lt e0
  go_upto_region 22 with fail
  clear d0 d1 e0 e1 zd ze
  obtain ⟨x0, x1, x2⟩ := HL.out.t9
  have zx := cell_lt x0
  obtain ⟨d0, d1⟩ := HL.out.g9
  have zd := cell_lt d0
  have HF := Lib.hid (PH.out.1 vba cq q HL.out.mon HL.out.lq HQ.out.1 HQ.out.2)
  go_upto_region 23 with (go_at_call 57; refine HF.out.mono ?_; rintro e vc ⟨rfl, hb⟩; have HL9 := Lib.hid (HL.out.below hb); clear hb HL)
  clear x0 x1 x2 zx HF d0 d1 zd
  have HL := Lib.hid HL9.out
  clear HL9
  obtain ⟨x0, x1, x2⟩ := HL.out.t10
  have zx := cell_lt x0
  obtain ⟨d0, d1⟩ := HL.out.g9
  have zd := cell_lt d0
  have HF := Lib.hid (PH.out.2 vc cr qr HL.out.lr)
  go_upto_region 24 with (go_at_call 58; refine HF.out.mono ?_; rintro e vd ⟨rfl, hb⟩; have HL9 := Lib.hid (HL.out.below hb); clear hb HL)
  clear x0 x1 x2 zx HF d0 d1 zd
  have HL := Lib.hid HL9.out
  clear HL9
  obtain ⟨x0, x1, x2⟩ := HL.out.t9
  obtain ⟨z0, z1, z2⟩ := HL.out.t4
  have zx := cell_lt x0
  have zz := cell_lt z0
  have HKP := Lib.hid (kept_yes b u f n cq c q p vd (by have := HN.out; omega) HL.out.lq HL.out.lp)
  go_wp2_with (go_at_call 18; refine HKP.out.mono ?_; rintro e vz ⟨rfl, hb⟩; have HLZ := Lib.hid (HL.out.below hb); clear hb)
  go_ret
  exact ⟨rfl, HLZ.out.bel⟩
end Go.Proofs.YtgnfaemnehmgcaaGreatDoor.Cal
namespace Go.Proofs.YtgnfaemnehmgcaaGreatDoor.Cal
open Go Go.RowKit Go.WideShapes Go.ChangeShapes Go.Deep Go.Joins
theorem wf_i64 {n : Int} (h : (Lit.int .i64 n).wf = true) : -9223372036854775808 ≤ n ∧ n ≤ 9223372036854775807 := by
  simp only [Lit.wf, Bool.and_eq_true, decide_eq_true_eq] at h
  have h1 : IntKind.i64.min = -9223372036854775808 := by decide
  have h2 : IntKind.i64.max = 9223372036854775807 := by decide
  omega
section
variable {H : Type} {enc : TypeId × Value → H} {w : World} {base : Nat} {spare : Nat → Bool} {held : Bool}
end
end Go.Proofs.YtgnfaemnehmgcaaGreatDoor.Cal
