/-  -/
import Derived.Test.YtgnfaemnehmgcaaGreatDoorQ47
import Derived.Test.YtgnfaemnehmgcaaGreatDoorQ08
import Derived.Test.YtgnfaemnehmgcaaGreatDoorQ15
import Derived.Test.YtgnfaemnehmgcaaGreatDoorQ17
import Derived.Test.YtgnfaemnehmgcaaGreatDoorQ25
namespace Go.Proofs.YtgnfaemnehmgcaaGreatDoor.Cal
open Go Go.RowKit
attribute [local go_sem] Oper.semAt_some
theorem no_frozen (w : World) (v0 v1 : Value) (t : TypeId) (i : Nat) : (w.alloc (.cells #[v0, v1] t)).frozen? ⟨w.heap.size, i, none⟩ = false := by simp
structure Dat6 where
  y : Int
  m : Int
  d : Int
  h : Int
  i : Int
  s : Int
structure DatIn (w : World) (av k : Nat) (x : Dat6) : Prop where
  c0 : w.cell? ⟨av, k * 6, none⟩ = some (.int .i64 x.y)
  c1 : w.cell? ⟨av, k * 6 + 1, none⟩ = some (.int .i64 x.m)
  c2 : w.cell? ⟨av, k * 6 + 2, none⟩ = some (.int .i64 x.d)
  c3 : w.cell? ⟨av, k * 6 + 3, none⟩ = some (.int .i64 x.h)
  c4 : w.cell? ⟨av, k * 6 + 4, none⟩ = some (.int .i64 x.i)
  c5 : w.cell? ⟨av, k * 6 + 5, none⟩ = some (.int .i64 x.s)
theorem DatIn.below {w w' : World} {av k : Nat} {x : Dat6} (h : DatIn w av k x) (hb : Below w.heap.size w w') : DatIn w' av k x := ⟨cell_below hb h.c0, cell_below hb h.c1, cell_below hb h.c2, cell_below hb h.c3, cell_below hb h.c4, cell_below hb h.c5⟩
def datAt (a b : Dat6) (k : Nat) : Dat6 := if k = 0 then a else b
theorem dats_new (w : World) (a b : Dat6) (t : TypeId) : ∀ k, k < 2 → DatIn (w.alloc (.cells #[.int .i64 a.y, .int .i64 a.m, .int .i64 a.d, .int .i64 a.h, .int .i64 a.i, .int .i64 a.s, .int .i64 b.y, .int .i64 b.m, .int .i64 b.d, .int .i64 b.h, .int .i64 b.i, .int .i64 b.s] t)) w.heap.size k (datAt a b k) := fun k hk => by
  rcases (by omega : k = 0 ∨ k = 1) with rfl | rfl <;> constructor <;> simp [datAt]
theorem zs_start (w : World) (b u : Int) (n c : Nat) (p : Option Addr) (o : Int) (q cz : Nat) (pz : Option Addr) (y m d h mi s : Int) :
    ∃ W1, ((w.alloc (.cells #[.int .i64 b, .slice p n c, .int .i64 u] 24)).alloc (.cells #[.int .i64 o, .slice pz q cz] 38)).alloc (.cells #[.int .i64 y, .int .i64 m, .int .i64 d, .int .i64 h, .int .i64 mi, .int .i64 s] 26) = W1 ∧
      TBox W1 w.heap.size b u n c p ∧ ZBox W1 (w.heap.size + 1) o q cz pz ∧ DBox W1 (w.heap.size + 1 + 1) y m d h mi s ∧ Below w.heap.size w W1 := by
  obtain ⟨W1, h1, h2, h3, h4, h5, -⟩ := fl_start w b u n c p o q cz pz y m d h mi s
  exact ⟨W1, h1, h2, h3, h4, h5⟩
structure ZcAt (B X : World) (o : Int) (g : Nat → Int × Int) (k : Nat) (v : Value) : Prop where
  q0 : X.cell? ⟨B.heap.size, 0, none⟩ = some (.int .i64 o)
  q1 : X.cell? ⟨B.heap.size, 1, none⟩ = some v
  qz : ∀ i, X.frozen? ⟨B.heap.size, i, none⟩ = false
  own : X.ownsRow (B.heap.size + 1) 110 2 v k (lv g k)
  bel : Below B.heap.size B X
theorem ZcAt.below {B X Y : World} {o : Int} {g : Nat → Int × Int} {k : Nat} {v : Value} (h : ZcAt B X o g k v) (hb : Below X.heap.size X Y) : ZcAt B Y o g k v :=
  ⟨cell_below hb h.q0, cell_below hb h.q1, fun i => (hb.frozen (p := ⟨B.heap.size, i, none⟩) (cell_lt h.q0)).trans (h.qz i), own_keep h.own hb (Nat.le_refl _), bt h.bel hb⟩
theorem ZcAt.more {B X Y : World} {o : Int} {g : Nat → Int × Int} {k : Nat} {v v' : Value} (h : ZcAt B X o g k v) (hown : Y.ownsRow (B.heap.size + 1) 110 2 v' (k + 1) (lv g (k + 1))) (hg : X.grownBy Y v.ownBlock) :
    ZcAt B (Y.setCell ⟨B.heap.size, 1, none⟩ v') o g (k + 1) v' := by
  have hge : ∀ j, v.ownBlock = some j → B.heap.size + 1 ≤ j := fun j hj => own_geS h.own hj
  have hge' : ∀ j, v'.ownBlock = some j → B.heap.size + 1 ≤ j := fun j hj => own_geS hown hj
  have ne : ∀ a, a < B.heap.size + 1 → some a ≠ v.ownBlock := fun a ha e => by have := hge a e.symm; omega
  have q1 := grownO_cell hg h.q1 (ne _ (by omega))
  have oth : ∀ {o : Nat} {x : Value}, o ≠ 1 → Y.cell? ⟨B.heap.size, o, none⟩ = some x → (Y.setCell ⟨B.heap.size, 1, none⟩ v').cell? ⟨B.heap.size, o, none⟩ = some x := fun {o x} hne hx => by
    rw [World.cell?_setCell_other _ ⟨B.heap.size, 1, none⟩ ⟨B.heap.size, o, none⟩ _ (fun e => hne (by cases e; rfl))]; exact hx
  refine ⟨oth (by decide) (grownO_cell hg h.q0 (ne _ (by omega))), World.cell?_setCell_same _ _ _ q1,
    fun i => by rw [World.frozen?_setCell]; exact grownO_frozen hg (cell_lt h.q0) (ne _ (by omega)) (h.qz i),
    own_set hown _ (fun e => by have h5 : B.heap.size + 1 ≤ B.heap.size := hge' _ e; omega), ?_⟩
  exact (Below.grown h.bel hg h.bel.size (fun j hj => by have := hge j hj; omega)).setCell (p := ⟨B.heap.size, 1, none⟩) (Nat.le_refl _) _
theorem zc_start (B : World) (o : Int) (g : Nat → Int × Int) : ZcAt B (B.alloc (.cells #[.int .i64 o, .slice none 0 0] 109)) o g 0 (.slice none 0 0) :=
  ⟨by simp, by simp, fun i => by simp, World.ownsRow_nil _ _ _ _, below_alloc (Below.refl _ _) _⟩
structure ZsAt (w X : World) (b u : Int) (n c : Nat) (p : Option Addr) (f : Nat → Int × Int) (o : Int) (q cz : Nat) (pz : Option Addr) (g : Nat → Int × Int) (y m d h mi s : Int) (a9 a10 : Nat) (c9 c10 : Nat) (p9 p10 : Option Addr) : Prop where
  t : TBox X w.heap.size b u n c p
  z : ZBox X (w.heap.size + 1) o q cz pz
  d : DBox X (w.heap.size + 1 + 1) y m d h mi s
  t9 : TBox X a9 b u n c9 p9
  t10 : TBox X a10 b u n c10 p10
  lp : LpIn X f n p
  lz : LpIn X g q pz
  l9 : LpIn X f n p9
  l10 : LpIn X f n p10
  mon : Mon X
  bel : Below w.heap.size w X
theorem ZsAt.below {w X Y : World} {b u : Int} {n c : Nat} {p : Option Addr} {f : Nat → Int × Int} {o : Int} {q cz : Nat} {pz : Option Addr} {g : Nat → Int × Int} {y m d h mi s : Int} {a9 a10 : Nat} {c9 c10 : Nat} {p9 p10 : Option Addr}
    (k : ZsAt w X b u n c p f o q cz pz g y m d h mi s a9 a10 c9 c10 p9 p10) (hb : Below X.heap.size X Y) : ZsAt w Y b u n c p f o q cz pz g y m d h mi s a9 a10 c9 c10 p9 p10 :=
  ⟨k.t.below hb, k.z.below hb, k.d.below hb, k.t9.below hb, k.t10.below hb, k.lp.below hb, k.lz.below hb, k.l9.below hb, k.l10.below hb, k.mon.below hb, bt k.bel hb⟩
set_option maxRecDepth 100000 in
set_option maxHeartbeats 16000000 in
theorem zones_any (b u : Int) (n c : Nat) (p : Option Addr) (f : Nat → Int × Int) (o : Int) (q cz : Nat) (pz : Option Addr) (g : Nat → Int × Int) (x y m d h mi s : Int) (w : World) (hw : Mon w) (hs : LpIn w f n p) (hs2 : LpIn w g q pz) (hn : n ≤ 1000) (hq : q ≤ 1000) (hp : p = none → n = 0) (hpz : pz = none → q = 0) (hgt : ∀ i, i < q → (g i).1 ≤ 9223372036854775807) :
    Calls Tryz.prog 11 #[.agg #[.int .i64 b, .slice p n c, .int .i64 u], .agg #[.int .i64 o, .slice pz q cz], .int .i64 x, .agg #[.int .i64 y, .int .i64 m, .int .i64 d, .int .i64 h, .int .i64 mi, .int .i64 s]] w fun e w' => e = .returned (.bool true) ∧ Below w.heap.size w w' := by
  obtain ⟨i0, hi0, hz0, hz1, hz2⟩ := info_parts infoChgR
  obtain ⟨W1, hW1, hx, hy, hdb, A0⟩ := zs_start w b u n c p o q cz pz y m d h mi s
  have HCP := Lib.hid (copied_any b u f n c p W1 hn hp (hs.below A0))
  have HX := Lib.hid hx
  have HY := Lib.hid hy
  have HDB := Lib.hid hdb
  have HW := Lib.hid (hw.below A0)
  have HS := Lib.hid (hs.below A0)
  have HS2 := Lib.hid (hs2.below A0)
  have A0 := Lib.hid A0
  have HQ := Lib.hid hq
  have HN := Lib.hid hn
  have HCL := Lib.hid (fun X hX => cloneC_any g q cz pz X hq hpz (HS2.out.below hX))
  have HCK := Lib.hid (fun c' p' X (hX : LpIn X g q p') => CheckZone_any o q c' p' g X hX (by omega))
  have HRK := Lib.hid (fun c' p' X (hX : LpIn X g q p') => rCheckZone_any o q c' p' g X hX (by omega))
  have HLOC := Lib.hid (loc_pair b u n f hn o q g hq hgt x)
  have HFL := Lib.hid (fl_pair b u n f hn o q g hq hgt)
  clear hx hy hdb hw hs hs2 hn hq hp hpz hgt
  go_enter Tryz.func11, Tryz.ntmps11
  go_upto_region 1 with fail
  clear hW1
  obtain ⟨x0, x1, x2⟩ := HX.out
  have zx := cell_lt x0
  go_upto_region 2 with (go_at_call 14; refine HCP.out.mono ?_; rintro e w2 ⟨p9, c9, p10, c10, rfl, hc9, hl9, hl10, hb2⟩; have HC9 := Lib.hid hc9; have HL9 := Lib.hid hl9; have HL10 := Lib.hid hl10; have HB2 := Lib.hid hb2; clear hc9 hl9 hl10 hb2)
  clear x0 x1 x2 zx
  have b1 := below_alloc (Below.refl w2.heap.size w2) (.cells #[.int .i64 b, .slice p9 n c9, .int .i64 u] 24)
  have b2 := below_alloc b1 (.cells #[.int .i64 b, .slice p10 n c10, .int .i64 u] 55)
  have e1 : (w2.alloc (.cells #[.int .i64 b, .slice p9 n c9, .int .i64 u] 24)).heap.size = w2.heap.size + 1 := by simp
  have t10 := TBox.new (w2.alloc (.cells #[.int .i64 b, .slice p9 n c9, .int .i64 u] 24)) b u n c10 p10 55
  rw [e1] at t10
  have HZS : Hid (ZsAt w ((w2.alloc (.cells #[.int .i64 b, .slice p9 n c9, .int .i64 u] 24)).alloc (.cells #[.int .i64 b, .slice p10 n c10, .int .i64 u] 55)) b u n c p f o q cz pz g y m d h mi s w2.heap.size (w2.heap.size + 1) c9 c10 p9 p10) := Lib.hid
    ⟨(HX.out.below HB2.out).below b2, (HY.out.below HB2.out).below b2, (HDB.out.below HB2.out).below b2, (TBox.new w2 b u n c9 p9 24).below (below_alloc (Below.refl _ _) _), t10,
      (HS.out.below HB2.out).below b2, (HS2.out.below HB2.out).below b2, HL9.out.below b2, HL10.out.below b2, (HW.out.below HB2.out).below b2, bt (bt A0.out HB2.out) b2⟩
  have HB12 := Lib.hid (bt HB2.out b2)
  clear b1 b2 e1 t10 HX HY HDB HS HS2 HL9 HL10 HW HB2 HCP A0
  generalize (w2.alloc (.cells #[.int .i64 b, .slice p9 n c9, .int .i64 u] 24)).alloc (.cells #[.int .i64 b, .slice p10 n c10, .int .i64 u] 55) = V at *
  obtain ⟨a10, ha10⟩ : ∃ a, w2.heap.size + 1 = a := ⟨_, rfl⟩
  rw [ha10] at HZS ⊢
  clear ha10
  obtain ⟨a9, ha9⟩ : ∃ a, w2.heap.size = a := ⟨_, rfl⟩
  rw [ha9] at HZS ⊢
  clear ha9
  obtain ⟨y0, y1⟩ := HZS.out.z
  have hB0 : Below V.heap.size V V.drew := Below.drew (Below.refl _ _)
  have HK := Lib.hid (show ∀ X, Below V.heap.size V X → (fun w' => Below V.heap.size V w' ∧ w'.cell? ⟨w.heap.size + 1, 0, none⟩ = some (.int .i64 o) ∧ w'.cell? ⟨w.heap.size + 1, 1, none⟩ = some (.slice pz q cz)) X from fun X hX => ⟨hX, cell_below hX y0, cell_below hX y1⟩)
  refine wp_region_held_drew (S := (fun w' => Below V.heap.size V w' ∧ w'.cell? ⟨w.heap.size + 1, 0, none⟩ = some (.int .i64 o) ∧ w'.cell? ⟨w.heap.size + 1, 1, none⟩ = some (.slice pz q cz))) (by kernel_rfl) (HK.out _ hB0) (fun hHeld => ?_)
  refine wpAnyH_take (i := 0) (v := ?_) rfl (by kernel_rfl) (by kernel_rfl) (by kernel_rfl) (fun _ _ _ h => h) (Or.inl ⟨by rfl, ?_⟩) (by assumption) ?_
  rotate_left
  · intro w hSw; (try dsimp only at hSw); go_simp; try with_reducible rfl
  simp only [Act.put, List.getElem_toArray, List.getElem_cons_zero, List.setIfInBounds_toArray, List.set_cons_zero, List.set_cons_succ]
  refine wpAnyH_take (i := 1) (v := ?_) rfl (by kernel_rfl) (by kernel_rfl) (by kernel_rfl) (fun _ _ _ h => h) (Or.inl ⟨by rfl, ?_⟩) (by assumption) ?_
  rotate_left
  · intro w hSw; (try dsimp only at hSw); go_simp; try with_reducible rfl
  simp only [Act.put, List.getElem_toArray, List.getElem_cons_succ, List.getElem_cons_zero, List.setIfInBounds_toArray, List.set_cons_zero, List.set_cons_succ]
  refine wpAnyH_take (i := 2) (v := ?_) rfl (by kernel_rfl) (by kernel_rfl) (by kernel_rfl) (fun _ _ _ h => h) (Or.inl ⟨by rfl, ?_⟩) (by assumption) ?_
  rotate_left
  · intro w hSw; (try dsimp only at hSw); go_simp; try with_reducible rfl
  simp only [Act.put, List.getElem_toArray, List.getElem_cons_succ, List.getElem_cons_zero, List.setIfInBounds_toArray, List.set_cons_zero, List.set_cons_succ]
  refine wpAnyH_take (i := 3) (v := ?_) rfl (by kernel_rfl) (by kernel_rfl) (by kernel_rfl) (fun _ _ _ h => h) (Or.inl ⟨by rfl, ?_⟩) (by assumption) ?_
  rotate_left
  · intro w hSw; (try dsimp only at hSw); go_simp; try with_reducible rfl
  simp only [Act.put, List.getElem_toArray, List.getElem_cons_succ, List.getElem_cons_zero, List.setIfInBounds_toArray, List.set_cons_zero, List.set_cons_succ]
  clear y0 y1
  have HCLD := Lib.hid (fun X (hX : Below V.heap.size V X) => HCL.out X (bt HB12.out hX))
  refine wpAnyH_ready (rs := [4, 6]) (by kernel_rfl) (by simp) ?_
  refine AllReadyH.cons rfl (fun K hK => ?_) (AllReadyH.cons rfl (fun K hK => ?_) AllReadyH.nil)
  · go_simp
    go_at_call 59
    refine (HCLD.out _ hB0).mono ?_
    rintro e wA ⟨pn, cn, rfl, hn1, hn2, hl, hge, hb⟩
    have hbA := bt hB0 hb
    go_wp2_with fail
    refine hK.out _ _ (HK.out _ hbA) (fun hHeldA => ?_)
    clear hK K
    refine wpAnyH_take (i := 5) (v := ?_) rfl (by kernel_rfl) (by kernel_rfl) (by kernel_rfl) (fun _ _ _ h => h) (Or.inl ⟨by rfl, ?_⟩) (by assumption) ?_
    rotate_left
    · intro w hSw; (try dsimp only at hSw); go_simp; try with_reducible rfl
    simp only [Act.put, List.getElem_toArray, List.getElem_cons_succ, List.getElem_cons_zero, List.setIfInBounds_toArray, List.set_cons_zero, List.set_cons_succ]
    refine wpAnyH_ready (rs := [6]) (by kernel_rfl) (by simp) ?_
    refine AllReadyH.cons rfl (fun K hK => ?_) AllReadyH.nil
    go_simp
    have hbB := below_alloc hbA (.cells #[.int .i64 0, .slice none 0 0] 38)
    refine hK.out _ _ (HK.out _ hbB) (fun hHeldB => ?_)
    clear hK K
    refine wpAnyH_ready (rs := [7]) (by kernel_rfl) (by simp) ?_
    refine AllReadyH.cons rfl (fun K hK => ?_) AllReadyH.nil
    go_simp
    have hbC := below_alloc hbA (.cells #[.int .i64 o, .slice pn q cn] 38)
    refine hK.out _ _ (HK.out _ hbC) (fun hHeldC => ?_)
    clear hK K
    refine wpAnyH_done (by kernel_rfl) ?_ _
    have HZ11 := Lib.hid (ZBox.new wA o q cn pn 38)
    have HLN := Lib.hid (hl.below (below_alloc (Below.refl wA.heap.size wA) (.cells #[.int .i64 o, .slice pn q cn] 38)))
    have HB3 := Lib.hid hbC
    clear hHeld hHeldA hHeldB hHeldC hn1 hn2 hl hge hb hbA hbB hbC hB0 HK HCL HCLD
    obtain ⟨a11, ha11⟩ : ∃ a, wA.heap.size = a := ⟨_, rfl⟩
    rw [ha11] at HZ11 ⊢
    clear ha11
    generalize wA.alloc (.cells #[.int .i64 o, .slice pn q cn] 38) = X3 at *
    have HZ3 := Lib.hid (HZS.out.below HB3.out)
    clear HZS HB3 HB12
    obtain ⟨y0, y1⟩ := HZ3.out.z
    have zy := cell_lt y0
    go_upto_region 4 with fail
    have hb4 := below_alloc (Below.refl X3.heap.size X3) (.cells #[.int .i64 o, .slice none 0 0] 109)
    have HC4 := Lib.hid (zc_start X3 o g)
    have HZ4 := Lib.hid (HZ3.out.below hb4)
    clear hb4 y0 y1 zy
    generalize X3.alloc (.cells #[.int .i64 o, .slice none 0 0] 109) = X4 at *
    obtain ⟨y0, y1⟩ := HZ4.out.z
    have zy := cell_lt y0
    go_wp2_with fail
    clear y0 y1 zy HZ4
    go_loopw [14, 44] (fun s14 s44 wr => ∃ (k : Nat) (v14 v : Value), k ≤ q ∧ s14 = v14 ∧ s44 = .int .i64 (k : Int) ∧ Hid (ZcAt X3 wr o g k v)) (fun _ s _ => q - (intOf s).toNat)
    case atStart => exact ⟨0, _, _, Nat.zero_le _, rfl, rfl, HC4⟩
    case round =>
      obtain ⟨k, v14, v, hk, rfl, rfl, HA⟩ := hrel
      have hqb := HQ.out
      by_cases hlt : k < q
      · have hki : (k : Int) < q := by omega
        have vk : IntKind.i64.wrap ((k : Int) + 1) = (k : Int) + 1 := IntWalk.i64_in _ (by omega)
        obtain ⟨bb, oo, rfl, hsi⟩ := HZ3.out.lz.resolve_left (by omega)
        obtain ⟨y0, y1⟩ := hsi k hlt
        have y0 := cell_below HA.out.bel y0
        have y1 := cell_below HA.out.bel y1
        have zy := cell_lt y0
        have hb1 := below_alloc (Below.refl wr.heap.size wr) (.cells #[.int .i64 (g k).1, .int .i64 (g k).2] 35)
        have g0 : (wr.alloc (.cells #[.int .i64 (g k).1, .int .i64 (g k).2] 35)).cell? ⟨wr.heap.size, 0, none⟩ = some (.int .i64 (g k).1) := by simp
        have g1 : (wr.alloc (.cells #[.int .i64 (g k).1, .int .i64 (g k).2] 35)).cell? ⟨wr.heap.size, 1, none⟩ = some (.int .i64 (g k).2) := by simp
        have HA1 := Lib.hid (HA.out.below hb1)
        have HLV : Hid (lv g (k + 1) = lv g k ++ [.int .i64 (g k).1, .int .i64 (g k).2]) := Lib.hid rfl
        have HK := Lib.hid hlt
        clear hlt hsi hb1
        generalize (g k).1 = dk at *
        generalize (g k).2 = sk at *
        go_upto_region 7 with fail
        generalize wr.alloc (.cells #[.int .i64 dk, .int .i64 sk] 35) = W7 at *
        clear y0 y1 zy
        have zg := cell_lt g0
        have q1 := HA1.out.q1
        have zq := cell_lt q1
        have qz := HA1.out.qz 1
        go_wp2_with (at_builtin; refine wpList_append_own_at _ rfl _ _ _ rfl (X3.heap.size + 1) 110 i0 (.agg #[.int .i64 0, .int .i64 0]) 2 16 Tryz.underlying107 hi0 hz0 hz1 hz2 rfl (by decide) _ k _ rfl (HA1.out.own.alloc _) ⟨W7.heap.size, 0, none⟩ 1 1 [.int .i64 dk, .int .i64 sk] rfl rfl (two_new _ _ _ _) (by simp [Value.oneCell']) (by unfold maxLen; omega) (by omega) (by have := cell_lt HA1.out.q0; simp; omega) ?_; intro v' w2 hown hg _ _; obtain ⟨g', cap', rfl⟩ := ownsRow_succ hown; have HA2 := Lib.hid ((HA1.out.below (below_alloc (Below.refl _ _) _)).more (by rw [HLV.out]; exact hown) hg); have q2 := grownO_cell hg (cell_below (below_alloc (Below.refl _ _) _) q1) (fun e => by have := own_geS HA1.out.own e.symm; omega); have zq2 := cell_lt q2; have qz2 := grownO_frozen hg (by have := cell_lt q1; simp; omega) (fun e => by have := own_geS HA1.out.own e.symm; omega) ((below_alloc (Below.refl W7.heap.size W7) _).frozen (p := ⟨X3.heap.size, 1, none⟩) (cell_lt q1) |>.trans qz); clear hown hg)
        go_roundw
        case rel => exact ⟨k + 1, _, _, HK.out, rfl, by simp, HA2⟩
        case measure => have := HK.out; simp [intOf]; omega
      · obtain rfl : k = q := by omega
        have hki : ¬ ((k : Int) < k) := by omega
        clear hlt
        obtain ⟨pr, cr, rfl, -, -, hlr, -⟩ := own_leaps HA.out.own
        have HLR := Lib.hid hlr
        have HZ := Lib.hid (HZ3.out.below HA.out.bel)
        have HZN := Lib.hid (HZ11.out.below HA.out.bel)
        have HLN2 := Lib.hid (HLN.out.below HA.out.bel)
        have HZR := Lib.hid (ZBox.mk HA.out.q0 HA.out.q1)
        clear hlr HZ3 HZ11 HLN HC4 HA
        obtain ⟨a12, ha12⟩ : ∃ a, X3.heap.size = a := ⟨_, rfl⟩
        rw [ha12] at HZR
        go_wp2_with fail
        have HRZ := Lib.hid (show ∀ Z, Below wr.heap.size wr Z → ZBox Z a11 o k cn pn from fun Z hZ => HZN.out.below hZ)
        have HRR := Lib.hid (show ∀ Z, Below wr.heap.size wr Z → ZBox Z a12 o k cr pr from fun Z hZ => HZR.out.below hZ)
        have HC1 := Lib.hid (show ∀ Z, Below wr.heap.size wr Z → _ from fun Z hZ => Calls.bel hZ (HCK.out cn pn Z (HLN2.out.below hZ)))
        have HC2 := Lib.hid (show ∀ Z, Below wr.heap.size wr Z → _ from fun Z hZ => Calls.bel hZ (HRK.out cr pr Z (HLR.out.below hZ)))
        clear HCK HRK
        obtain ⟨zE, hzE⟩ : ∃ zE, zoneE o k g = zE := ⟨_, rfl⟩
        rw [hzE] at HC1 HC2
        clear hzE
        refine (wpIn_wide (n := 9)).1 ?_
        refine wpIn_region_cls (fun Z => Below wr.heap.size wr Z) 4 1 (Below.drew (Below.refl _ _)) (by kernel_rfl) (by kernel_rfl) (by kernel_rfl) (by kernel_rfl) (by kernel_rfl) rfl ?_
        simp only [List.take_succ_cons, List.take_zero]
        refine wpQuietIn_step (fun _ _ _ _ => trivial) (fun KQ hKQ => ?_)
        rw [if_pos (by rfl)]
        refine ⟨.agg #[.int .i64 o, .slice pn k cn], fun Z hZ => ?_, hKQ _ ?_⟩
        · obtain ⟨q0, q1⟩ := HRZ.out Z hZ; have qz := cell_lt q0; unfold Oper.quietAtIn; go_simp
        clear hKQ KQ
        simp only [Act.put, List.setIfInBounds_toArray, List.set_cons_zero, List.set_cons_succ]
        refine wpQuietIn_step (fun _ _ _ _ => trivial) (fun KQ hKQ => ?_)
        rw [if_pos (by rfl)]
        refine ⟨.int .i64 zE, fun Z hZ => ?_, hKQ _ ?_⟩
        · unfold Oper.quietAtIn; go_simp; exact callsIn_wide.2 (HC1.out Z hZ)
        clear hKQ KQ
        simp only [Act.put, List.setIfInBounds_toArray, List.set_cons_zero, List.set_cons_succ]
        refine wpQuietIn_step (fun _ _ _ _ => trivial) (fun KQ hKQ => ?_)
        rw [if_pos (by rfl)]
        refine ⟨.agg #[.int .i64 o, .slice pr k cr], fun Z hZ => ?_, hKQ _ ?_⟩
        · obtain ⟨q0, q1⟩ := HRR.out Z hZ; have qz := cell_lt q0; unfold Oper.quietAtIn; go_simp
        clear hKQ KQ
        simp only [Act.put, List.setIfInBounds_toArray, List.set_cons_zero, List.set_cons_succ]
        refine wpQuietIn_step (fun _ _ _ _ => trivial) (fun KQ hKQ => ?_)
        rw [if_pos (by rfl)]
        refine ⟨.int .i64 zE, fun Z hZ => ?_, hKQ _ ?_⟩
        · unfold Oper.quietAtIn; go_simp; exact callsIn_wide.2 (HC2.out Z hZ)
        clear hKQ KQ
        simp only [Act.put, List.setIfInBounds_toArray, List.set_cons_zero, List.set_cons_succ]
        refine wpQuietIn_nil ?_
        intro Z hZ
        simp only [List.replicate_succ, List.replicate_zero, List.cons_append, List.nil_append]
        have HBZ := Lib.hid hZ
        clear hZ HRZ HRR HC1 HC2
        refine wpAnyIn_ready (rs := [4]) (by kernel_rfl) (by simp) (AllReadyIn.cons rfl (fun K' hKK => ?_) AllReadyIn.nil)
        go_simp
        refine hKK _ _ ?_
        clear hKK
        refine wpAnyIn_done (by kernel_rfl) ?_ _
        have HZ9 := Lib.hid (HZ.out.below HBZ.out)
        have HN9 := Lib.hid (HZN.out.below HBZ.out)
        have HR9 := Lib.hid (HZR.out.below HBZ.out)
        have HM9 := Lib.hid (HLN2.out.below HBZ.out)
        have HQ9 := Lib.hid (HLR.out.below HBZ.out)
        clear HZ HZN HZR HLN2 HLR HBZ
        obtain ⟨ly, lm, ld, lh, lmi, ls, lof, le, hp1, hp2⟩ := HLOC.out
        have HP1 := Lib.hid hp1
        have HP2 := Lib.hid hp2
        clear hp1 hp2 HLOC
        obtain ⟨x0, x1, x2⟩ := HZ9.out.t9
        have zx := cell_lt x0
        obtain ⟨y0, y1⟩ := HN9.out
        have zy := cell_lt y0
        go_upto_region 12 with (go_at_call 62; refine (HP1.out Z c9 p9 cn pn HZ9.out.mon HZ9.out.l9 HM9.out HC9.out.1 HC9.out.2).mono ?_; rintro e w11 ⟨rfl, hb11⟩; have HB11 := Lib.hid hb11; clear hb11)
        clear x0 x1 x2 zx y0 y1 zy HP1
        have hbd := below_alloc HB11.out (.cells #[.int .i64 ly, .int .i64 lm, .int .i64 ld, .int .i64 lh, .int .i64 lmi, .int .i64 ls] 26)
        have HD15 := Lib.hid (DBox.new w11 ly lm ld lh lmi ls)
        have HZ := Lib.hid (HZ9.out.below hbd)
        have HN := Lib.hid (HN9.out.below hbd)
        have HR := Lib.hid (HR9.out.below hbd)
        have HM := Lib.hid (HM9.out.below hbd)
        have HQR := Lib.hid (HQ9.out.below hbd)
        clear hbd HZ9 HN9 HR9 HM9 HQ9 HB11
        generalize w11.alloc (.cells #[.int .i64 ly, .int .i64 lm, .int .i64 ld, .int .i64 lh, .int .i64 lmi, .int .i64 ls] 26) = V12 at *
        obtain ⟨a15, ha15⟩ : ∃ a, w11.heap.size = a := ⟨_, rfl⟩
        rw [ha15] at HD15 ⊢
        clear ha15
        obtain ⟨x0, x1, x2⟩ := HZ.out.t10
        have zx := cell_lt x0
        obtain ⟨y0, y1⟩ := HR.out
        have zy := cell_lt y0
        go_upto_region 13 with (go_at_call 63; refine (HP2.out V12 c10 p10 cr pr HZ.out.l10 HQR.out).mono ?_; rintro e w12 ⟨rfl, hb12⟩; have HB12 := Lib.hid hb12; clear hb12)
        clear x0 x1 x2 zx y0 y1 zy HP2
        have hbd := below_alloc HB12.out (.cells #[.int .i64 ly, .int .i64 lm, .int .i64 ld, .int .i64 lh, .int .i64 lmi, .int .i64 ls] 67)
        have HD18 : Hid (DBox (w12.alloc (.cells #[.int .i64 ly, .int .i64 lm, .int .i64 ld, .int .i64 lh, .int .i64 lmi, .int .i64 ls] 67)) w12.heap.size ly lm ld lh lmi ls) := Lib.hid ⟨by simp, by simp, by simp, by simp, by simp, by simp⟩
        have HZ13 := Lib.hid (HZ.out.below hbd)
        have HN13 := Lib.hid (HN.out.below hbd)
        have HR13 := Lib.hid (HR.out.below hbd)
        have HM13 := Lib.hid (HM.out.below hbd)
        have HQ13 := Lib.hid (HQR.out.below hbd)
        have HD13 := Lib.hid (HD15.out.below hbd)
        clear hbd HZ HN HR HM HQR HD15 HB12
        generalize w12.alloc (.cells #[.int .i64 ly, .int .i64 lm, .int .i64 ld, .int .i64 lh, .int .i64 lmi, .int .i64 ls] 67) = V13 at *
        obtain ⟨a18, ha18⟩ : ∃ a, w12.heap.size = a := ⟨_, rfl⟩
        rw [ha18] at HD18 ⊢
        clear ha18
        obtain ⟨d0, d1, d2, d3, d4, d5⟩ := HD13.out
        have zd := cell_lt d0
        obtain ⟨e0, e1, e2, e3, e4, e5⟩ := HD18.out
        have ze := cell_lt e0
        obtain ⟨f0, f1, f2, f3, f4, f5⟩ := HZ13.out.d
        have zf := cell_lt f0
        go_upto_region 15 with fail
        clear e0 e1 e2 e3 e4 e5 ze HD18
        go_wp2_with fail
        clear d0 d1 d2 d3 d4 d5 zd f0 f1 f2 f3 f4 f5 zf
        have hba := below_alloc (Below.refl V13.heap.size V13) (.cells #[.int .i64 y, .int .i64 m, .int .i64 d, .int .i64 h, .int .i64 mi, .int .i64 s, .int .i64 ly, .int .i64 lm, .int .i64 ld, .int .i64 lh, .int .i64 lmi, .int .i64 ls] 26)
        have HDA := Lib.hid (dats_new V13 ⟨y, m, d, h, mi, s⟩ ⟨ly, lm, ld, lh, lmi, ls⟩ 26)
        dsimp only at HDA
        have HZ15 := Lib.hid (HZ13.out.below hba)
        have HBASE := Lib.hid HZ15.out.bel
        have HN15 := Lib.hid (HN13.out.below hba)
        have HR15 := Lib.hid (HR13.out.below hba)
        have HM15 := Lib.hid (HM13.out.below hba)
        have HQ15 := Lib.hid (HQ13.out.below hba)
        clear hba HZ13 HN13 HR13 HM13 HQ13 HD13
        generalize V13.alloc (.cells #[.int .i64 y, .int .i64 m, .int .i64 d, .int .i64 h, .int .i64 mi, .int .i64 s, .int .i64 ly, .int .i64 lm, .int .i64 ld, .int .i64 lh, .int .i64 lmi, .int .i64 ls] 26) = V15 at *
        obtain ⟨av, hav⟩ : ∃ a, V13.heap.size = a := ⟨_, rfl⟩
        rw [hav] at HDA ⊢
        clear hav
        go_loopw [22, 23, 24, 25, 26, 93] (fun s22 s23 s24 s25 s26 s93 wx => ∃ (i : Nat) (v22 v23 v24 v25 v26 : Value), i ≤ 2 ∧ s22 = v22 ∧ s23 = v23 ∧ s24 = v24 ∧ s25 = v25 ∧ s26 = v26 ∧ s93 = .int .i64 (i : Int) ∧ Hid (Below V15.heap.size V15 wx)) (fun _ _ _ _ _ s _ => 2 - (intOf s).toNat)
        case atStart => exact ⟨0, _, _, _, _, _, Nat.zero_le _, rfl, rfl, rfl, rfl, rfl, rfl, Lib.hid (Below.refl _ _)⟩
        case round =>
          obtain ⟨i, v22, v23, v24, v25, v26, hi, rfl, rfl, rfl, rfl, rfl, rfl, HBW⟩ := hrel
          by_cases hlt : i < 2
          · have hii : (i : Int) < 2 := by omega
            have vi : IntKind.i64.wrap ((i : Int) + 1) = (i : Int) + 1 := IntWalk.i64_in _ (by omega)
            have HDI := (HDA.out i hlt).below HBW.out
            obtain ⟨D6, hD6⟩ : ∃ D6, datAt ⟨y, m, d, h, mi, s⟩ ⟨ly, lm, ld, lh, lmi, ls⟩ i = D6 := ⟨_, rfl⟩
            rw [hD6] at HDI
            clear hD6
            obtain ⟨y', m', d', h', i', s'⟩ := D6
            obtain ⟨d0, d1, d2, d3, d4, d5⟩ := HDI
            dsimp only at d0 d1 d2 d3 d4 d5
            have zd := cell_lt d0
            obtain ⟨L, er, hL, hp1, hp2⟩ := HFL.out y' m' d' h' i' s'
            unfold ListR at hp1 hp2
            have HP1 := Lib.hid hp1
            have HP2 := Lib.hid hp2
            have HI := Lib.hid hlt
            clear hp1 hp2 hlt
            go_upto_region 18 with fail
            have hbd := below_alloc (Below.refl wr.heap.size wr) (.cells #[.int .i64 y', .int .i64 m', .int .i64 d', .int .i64 h', .int .i64 i', .int .i64 s'] 26)
            have HB17 := Lib.hid (bt HBW.out hbd)
            have HDD := Lib.hid (DBox.new wr y' m' d' h' i' s')
            clear hbd d0 d1 d2 d3 d4 d5 zd
            generalize wr.alloc (.cells #[.int .i64 y', .int .i64 m', .int .i64 d', .int .i64 h', .int .i64 i', .int .i64 s'] 26) = W17 at *
            obtain ⟨a22, ha22⟩ : ∃ a, wr.heap.size = a := ⟨_, rfl⟩
            rw [ha22] at HDD ⊢
            clear ha22
            obtain ⟨x0, x1, x2⟩ := HZ15.out.t9.below HB17.out
            have zx := cell_lt x0
            obtain ⟨y0, y1⟩ := HN15.out.below HB17.out
            have zy := cell_lt y0
            obtain ⟨d0, d1, d2, d3, d4, d5⟩ := HDD.out
            have zd := cell_lt d0
            go_upto_region 19 with (go_at_call 64; refine (HP1.out W17 c9 p9 cn pn (HZ15.out.mon.below HB17.out) (HZ15.out.l9.below HB17.out) (HM15.out.below HB17.out) HC9.out.1 HC9.out.2).mono ?_; rintro e w18 ⟨⟨r1, cr1, rfl, hf1⟩, hb18⟩; have HB18 := Lib.hid (bt HB17.out hb18); have HF1 := Lib.hid hf1; have HD18 := Lib.hid (HDD.out.below hb18))
            clear x0 x1 x2 zx y0 y1 zy d0 d1 d2 d3 d4 d5 zd hf1 hb18
            obtain ⟨x0, x1, x2⟩ := HZ15.out.t10.below HB18.out
            have zx := cell_lt x0
            obtain ⟨y0, y1⟩ := HR15.out.below HB18.out
            have zy := cell_lt y0
            obtain ⟨d0, d1, d2, d3, d4, d5⟩ := HD18.out
            have zd := cell_lt d0
            go_upto_region 20 with (go_at_call 65; refine (HP2.out w18 c10 p10 cr pr (HZ15.out.l10.below HB18.out) (HQ15.out.below HB18.out)).mono ?_; rintro e w19 ⟨⟨r2, cr2, rfl, hf2⟩, hb19⟩; have HB19 := Lib.hid (bt HB18.out hb19); have HF2 := Lib.hid hf2; have HF3 := Lib.hid (HF1.out.below hb19))
            clear x0 x1 x2 zx y0 y1 zy d0 d1 d2 d3 d4 d5 zd hf2 hb19
            go_wp2_with (go_at_call 27; refine (equal_yes (atL L) L.length cr1 cr2 r1 r2 w19 (by omega) HF3.out HF2.out).mono ?_; rintro e w20 ⟨rfl, hb20⟩; have HB20 := Lib.hid (bt HB19.out hb20))
            go_roundw
            case rel => exact ⟨i + 1, _, _, _, _, _, HI.out, rfl, rfl, rfl, rfl, rfl, by simp, HB20⟩
            case measure => have := HI.out; simp [intOf]; omega
          · obtain rfl : i = 2 := by omega
            have hii : ¬ ((2 : Nat) : Int) < 2 := by decide
            clear hlt
            have HZE := Lib.hid (HZ15.out.below HBW.out)
            have HME := Lib.hid (HM15.out.below HBW.out)
            have HNE := Lib.hid (HN15.out.below HBW.out)
            obtain ⟨x0, x1, x2⟩ := HZE.out.t9
            have zx := cell_lt x0
            obtain ⟨t0, t1, t2⟩ := HZE.out.t
            have zt := cell_lt t0
            have HKP := Lib.hid (kept_yes b u f n c9 c p9 p wr (by have := HN.out; omega) HZE.out.l9 HZE.out.lp)
            have HEQ := Lib.hid (fun X (hX : Below wr.heap.size wr X) => equalC_yes g k cn cz pn pz X (by have := HQ.out; omega) (HME.out.below hX) (HZE.out.lz.below hX))
            have HZZ := Lib.hid (fun X (hX : Below wr.heap.size wr X) => HZE.out.z.below hX)
            have HZY := Lib.hid (fun X (hX : Below wr.heap.size wr X) => HNE.out.below hX)
            clear HZ15 HN15 HR15 HM15 HQ15 HDA HFL HZE HNE
            have HBL := Lib.hid (bt HBASE.out HBW.out)
            go_wp2_with (first | (go_at_call 18; refine HKP.out.mono ?_; rintro e w30 ⟨rfl, hb30⟩; have zz0 := (HZZ.out _ hb30).c1; have zn0 := (HZY.out _ hb30).c1; have zzl := cell_lt zz0; have znl := cell_lt zn0; have HB30 := Lib.hid hb30) | (go_at_call 66; refine (HEQ.out _ HB30.out).mono ?_; rintro e w31 ⟨rfl, hb31⟩; have HB31 := Lib.hid (bt (bt HBL.out HB30.out) hb31)))
            go_ret
            exact ⟨rfl, HB31.out⟩
  · go_simp
    have hbA := below_alloc hB0 (.cells #[.int .i64 0, .slice none 0 0] 38)
    refine hK.out _ _ (HK.out _ hbA) (fun hHeldA => ?_)
    clear hK K
    refine wpAnyH_ready (rs := [4]) (by kernel_rfl) (by simp) ?_
    refine AllReadyH.cons rfl (fun K hK => ?_) AllReadyH.nil
    go_simp
    go_at_call 59
    refine (HCLD.out _ hbA).mono ?_
    rintro e wA ⟨pn, cn, rfl, hn1, hn2, hl, hge, hb⟩
    have hbB := bt hbA hb
    go_wp2_with fail
    refine hK.out _ _ (HK.out _ hbB) (fun hHeldB => ?_)
    clear hK K
    refine wpAnyH_take (i := 5) (v := ?_) rfl (by kernel_rfl) (by kernel_rfl) (by kernel_rfl) (fun _ _ _ h => h) (Or.inl ⟨by rfl, ?_⟩) (by assumption) ?_
    rotate_left
    · intro w hSw; (try dsimp only at hSw); go_simp; try with_reducible rfl
    simp only [Act.put, List.getElem_toArray, List.getElem_cons_succ, List.getElem_cons_zero, List.setIfInBounds_toArray, List.set_cons_zero, List.set_cons_succ]
    have z0 : (V.drew.alloc (.cells #[.int .i64 0, .slice none 0 0] 38)).cell? ⟨V.drew.heap.size, 0, none⟩ = some (.int .i64 0) := (ZBox.new V.drew 0 0 0 none 38).c0
    have z1 : (V.drew.alloc (.cells #[.int .i64 0, .slice none 0 0] 38)).cell? ⟨V.drew.heap.size, 1, none⟩ = some (.slice none 0 0) := (ZBox.new V.drew 0 0 0 none 38).c1
    have zf : ∀ i, wA.frozen? ⟨V.drew.heap.size, i, none⟩ = false := fun i => (hb.frozen (p := ⟨V.drew.heap.size, i, none⟩) (cell_lt z0)).trans (no_frozen V.drew _ _ _ i)
    have zf0 := zf 0
    have zf1 := zf 1
    have z0 := cell_below hb z0
    have z1 := cell_below hb z1
    have zl := cell_lt z0
    have hge' : ∀ b o, pn = some ⟨b, o, none⟩ → b ≠ V.drew.heap.size := fun b o e => by have := hge b o e; simp at this; have h2 : V.drew.heap.size = V.heap.size := rfl; omega
    have hVs : V.drew.heap.size = V.heap.size := rfl
    rw [hVs] at z0 z1 zf0 zf1 zl hge'
    clear zf
    refine wpAnyH_ready (rs := [7]) (by kernel_rfl) (by simp) ?_
    refine AllReadyH.cons rfl (fun K hK => ?_) AllReadyH.nil
    go_simp
    have hst : Below V.heap.size V ((wA.setCell ⟨V.heap.size, 0, none⟩ (.int .i64 o)).setCell ⟨V.heap.size, 1, none⟩ (.slice pn q cn)) := (hbB.setCell (p := ⟨V.heap.size, 0, none⟩) (Nat.le_refl _) _).setCell (p := ⟨V.heap.size, 1, none⟩) (Nat.le_refl _) _
    refine hK.out _ _ (HK.out _ hst) (fun hHeldC => ?_)
    clear hK K
    refine wpAnyH_done (by kernel_rfl) ?_ _
    have HZ11 : Hid (ZBox ((wA.setCell ⟨V.heap.size, 0, none⟩ (.int .i64 o)).setCell ⟨V.heap.size, 1, none⟩ (.slice pn q cn)) V.heap.size o q cn pn) := Lib.hid
      ⟨by rw [World.cell?_setCell_other _ ⟨V.heap.size, 1, none⟩ ⟨V.heap.size, 0, none⟩ _ (fun e => by cases e)]; exact World.cell?_setCell_same _ _ _ z0,
        World.cell?_setCell_same _ _ _ (by rw [World.cell?_setCell_other _ ⟨V.heap.size, 0, none⟩ ⟨V.heap.size, 1, none⟩ _ (fun e => by cases e)]; exact z1)⟩
    have HLN := Lib.hid ((hl.set hge' (i := 0) (v := .int .i64 o)).set hge' (i := 1) (v := .slice pn q cn))
    have HB3 := Lib.hid hst
    clear hHeld hHeldA hHeldB hHeldC hn1 hn2 hl hge hb hbA hbB hst hB0 HK HCL HCLD z0 z1 zf0 zf1 zl hge' hVs
    obtain ⟨a11, ha11⟩ : ∃ a, V.heap.size = a := ⟨_, rfl⟩
    generalize (wA.setCell ⟨V.heap.size, 0, none⟩ (.int .i64 o)).setCell ⟨V.heap.size, 1, none⟩ (.slice pn q cn) = X3 at *
    rw [ha11] at HZ11 ⊢
    clear ha11
    have HZ3 := Lib.hid (HZS.out.below HB3.out)
    clear HZS HB3 HB12
    obtain ⟨y0, y1⟩ := HZ3.out.z
    have zy := cell_lt y0
    go_upto_region 4 with fail
    have hb4 := below_alloc (Below.refl X3.heap.size X3) (.cells #[.int .i64 o, .slice none 0 0] 109)
    have HC4 := Lib.hid (zc_start X3 o g)
    have HZ4 := Lib.hid (HZ3.out.below hb4)
    clear hb4 y0 y1 zy
    generalize X3.alloc (.cells #[.int .i64 o, .slice none 0 0] 109) = X4 at *
    obtain ⟨y0, y1⟩ := HZ4.out.z
    have zy := cell_lt y0
    go_wp2_with fail
    clear y0 y1 zy HZ4
    go_loopw [14, 44] (fun s14 s44 wr => ∃ (k : Nat) (v14 v : Value), k ≤ q ∧ s14 = v14 ∧ s44 = .int .i64 (k : Int) ∧ Hid (ZcAt X3 wr o g k v)) (fun _ s _ => q - (intOf s).toNat)
    case atStart => exact ⟨0, _, _, Nat.zero_le _, rfl, rfl, HC4⟩
    case round =>
      obtain ⟨k, v14, v, hk, rfl, rfl, HA⟩ := hrel
      have hqb := HQ.out
      by_cases hlt : k < q
      · have hki : (k : Int) < q := by omega
        have vk : IntKind.i64.wrap ((k : Int) + 1) = (k : Int) + 1 := IntWalk.i64_in _ (by omega)
        obtain ⟨bb, oo, rfl, hsi⟩ := HZ3.out.lz.resolve_left (by omega)
        obtain ⟨y0, y1⟩ := hsi k hlt
        have y0 := cell_below HA.out.bel y0
        have y1 := cell_below HA.out.bel y1
        have zy := cell_lt y0
        have hb1 := below_alloc (Below.refl wr.heap.size wr) (.cells #[.int .i64 (g k).1, .int .i64 (g k).2] 35)
        have g0 : (wr.alloc (.cells #[.int .i64 (g k).1, .int .i64 (g k).2] 35)).cell? ⟨wr.heap.size, 0, none⟩ = some (.int .i64 (g k).1) := by simp
        have g1 : (wr.alloc (.cells #[.int .i64 (g k).1, .int .i64 (g k).2] 35)).cell? ⟨wr.heap.size, 1, none⟩ = some (.int .i64 (g k).2) := by simp
        have HA1 := Lib.hid (HA.out.below hb1)
        have HLV : Hid (lv g (k + 1) = lv g k ++ [.int .i64 (g k).1, .int .i64 (g k).2]) := Lib.hid rfl
        have HK := Lib.hid hlt
        clear hlt hsi hb1
        generalize (g k).1 = dk at *
        generalize (g k).2 = sk at *
        go_upto_region 7 with fail
        generalize wr.alloc (.cells #[.int .i64 dk, .int .i64 sk] 35) = W7 at *
        clear y0 y1 zy
        have zg := cell_lt g0
        have q1 := HA1.out.q1
        have zq := cell_lt q1
        have qz := HA1.out.qz 1
        go_wp2_with (at_builtin; refine wpList_append_own_at _ rfl _ _ _ rfl (X3.heap.size + 1) 110 i0 (.agg #[.int .i64 0, .int .i64 0]) 2 16 Tryz.underlying107 hi0 hz0 hz1 hz2 rfl (by decide) _ k _ rfl (HA1.out.own.alloc _) ⟨W7.heap.size, 0, none⟩ 1 1 [.int .i64 dk, .int .i64 sk] rfl rfl (two_new _ _ _ _) (by simp [Value.oneCell']) (by unfold maxLen; omega) (by omega) (by have := cell_lt HA1.out.q0; simp; omega) ?_; intro v' w2 hown hg _ _; obtain ⟨g', cap', rfl⟩ := ownsRow_succ hown; have HA2 := Lib.hid ((HA1.out.below (below_alloc (Below.refl _ _) _)).more (by rw [HLV.out]; exact hown) hg); have q2 := grownO_cell hg (cell_below (below_alloc (Below.refl _ _) _) q1) (fun e => by have := own_geS HA1.out.own e.symm; omega); have zq2 := cell_lt q2; have qz2 := grownO_frozen hg (by have := cell_lt q1; simp; omega) (fun e => by have := own_geS HA1.out.own e.symm; omega) ((below_alloc (Below.refl W7.heap.size W7) _).frozen (p := ⟨X3.heap.size, 1, none⟩) (cell_lt q1) |>.trans qz); clear hown hg)
        go_roundw
        case rel => exact ⟨k + 1, _, _, HK.out, rfl, by simp, HA2⟩
        case measure => have := HK.out; simp [intOf]; omega
      · obtain rfl : k = q := by omega
        have hki : ¬ ((k : Int) < k) := by omega
        clear hlt
        obtain ⟨pr, cr, rfl, -, -, hlr, -⟩ := own_leaps HA.out.own
        have HLR := Lib.hid hlr
        have HZ := Lib.hid (HZ3.out.below HA.out.bel)
        have HZN := Lib.hid (HZ11.out.below HA.out.bel)
        have HLN2 := Lib.hid (HLN.out.below HA.out.bel)
        have HZR := Lib.hid (ZBox.mk HA.out.q0 HA.out.q1)
        clear hlr HZ3 HZ11 HLN HC4 HA
        obtain ⟨a12, ha12⟩ : ∃ a, X3.heap.size = a := ⟨_, rfl⟩
        rw [ha12] at HZR
        go_wp2_with fail
        have HRZ := Lib.hid (show ∀ Z, Below wr.heap.size wr Z → ZBox Z a11 o k cn pn from fun Z hZ => HZN.out.below hZ)
        have HRR := Lib.hid (show ∀ Z, Below wr.heap.size wr Z → ZBox Z a12 o k cr pr from fun Z hZ => HZR.out.below hZ)
        have HC1 := Lib.hid (show ∀ Z, Below wr.heap.size wr Z → _ from fun Z hZ => Calls.bel hZ (HCK.out cn pn Z (HLN2.out.below hZ)))
        have HC2 := Lib.hid (show ∀ Z, Below wr.heap.size wr Z → _ from fun Z hZ => Calls.bel hZ (HRK.out cr pr Z (HLR.out.below hZ)))
        clear HCK HRK
        obtain ⟨zE, hzE⟩ : ∃ zE, zoneE o k g = zE := ⟨_, rfl⟩
        rw [hzE] at HC1 HC2
        clear hzE
        refine (wpIn_wide (n := 9)).1 ?_
        refine wpIn_region_cls (fun Z => Below wr.heap.size wr Z) 4 1 (Below.drew (Below.refl _ _)) (by kernel_rfl) (by kernel_rfl) (by kernel_rfl) (by kernel_rfl) (by kernel_rfl) rfl ?_
        simp only [List.take_succ_cons, List.take_zero]
        refine wpQuietIn_step (fun _ _ _ _ => trivial) (fun KQ hKQ => ?_)
        rw [if_pos (by rfl)]
        refine ⟨.agg #[.int .i64 o, .slice pn k cn], fun Z hZ => ?_, hKQ _ ?_⟩
        · obtain ⟨q0, q1⟩ := HRZ.out Z hZ; have qz := cell_lt q0; unfold Oper.quietAtIn; go_simp
        clear hKQ KQ
        simp only [Act.put, List.setIfInBounds_toArray, List.set_cons_zero, List.set_cons_succ]
        refine wpQuietIn_step (fun _ _ _ _ => trivial) (fun KQ hKQ => ?_)
        rw [if_pos (by rfl)]
        refine ⟨.int .i64 zE, fun Z hZ => ?_, hKQ _ ?_⟩
        · unfold Oper.quietAtIn; go_simp; exact callsIn_wide.2 (HC1.out Z hZ)
        clear hKQ KQ
        simp only [Act.put, List.setIfInBounds_toArray, List.set_cons_zero, List.set_cons_succ]
        refine wpQuietIn_step (fun _ _ _ _ => trivial) (fun KQ hKQ => ?_)
        rw [if_pos (by rfl)]
        refine ⟨.agg #[.int .i64 o, .slice pr k cr], fun Z hZ => ?_, hKQ _ ?_⟩
        · obtain ⟨q0, q1⟩ := HRR.out Z hZ; have qz := cell_lt q0; unfold Oper.quietAtIn; go_simp
        clear hKQ KQ
        simp only [Act.put, List.setIfInBounds_toArray, List.set_cons_zero, List.set_cons_succ]
        refine wpQuietIn_step (fun _ _ _ _ => trivial) (fun KQ hKQ => ?_)
        rw [if_pos (by rfl)]
        refine ⟨.int .i64 zE, fun Z hZ => ?_, hKQ _ ?_⟩
        · unfold Oper.quietAtIn; go_simp; exact callsIn_wide.2 (HC2.out Z hZ)
        clear hKQ KQ
        simp only [Act.put, List.setIfInBounds_toArray, List.set_cons_zero, List.set_cons_succ]
        refine wpQuietIn_nil ?_
        intro Z hZ
        simp only [List.replicate_succ, List.replicate_zero, List.cons_append, List.nil_append]
        have HBZ := Lib.hid hZ
        clear hZ HRZ HRR HC1 HC2
        refine wpAnyIn_ready (rs := [4]) (by kernel_rfl) (by simp) (AllReadyIn.cons rfl (fun K' hKK => ?_) AllReadyIn.nil)
        go_simp
        refine hKK _ _ ?_
        clear hKK
        refine wpAnyIn_done (by kernel_rfl) ?_ _
        have HZ9 := Lib.hid (HZ.out.below HBZ.out)
        have HN9 := Lib.hid (HZN.out.below HBZ.out)
        have HR9 := Lib.hid (HZR.out.below HBZ.out)
        have HM9 := Lib.hid (HLN2.out.below HBZ.out)
        have HQ9 := Lib.hid (HLR.out.below HBZ.out)
        clear HZ HZN HZR HLN2 HLR HBZ
        obtain ⟨ly, lm, ld, lh, lmi, ls, lof, le, hp1, hp2⟩ := HLOC.out
        have HP1 := Lib.hid hp1
        have HP2 := Lib.hid hp2
        clear hp1 hp2 HLOC
        obtain ⟨x0, x1, x2⟩ := HZ9.out.t9
        have zx := cell_lt x0
        obtain ⟨y0, y1⟩ := HN9.out
        have zy := cell_lt y0
        go_upto_region 12 with (go_at_call 62; refine (HP1.out Z c9 p9 cn pn HZ9.out.mon HZ9.out.l9 HM9.out HC9.out.1 HC9.out.2).mono ?_; rintro e w11 ⟨rfl, hb11⟩; have HB11 := Lib.hid hb11; clear hb11)
        clear x0 x1 x2 zx y0 y1 zy HP1
        have hbd := below_alloc HB11.out (.cells #[.int .i64 ly, .int .i64 lm, .int .i64 ld, .int .i64 lh, .int .i64 lmi, .int .i64 ls] 26)
        have HD15 := Lib.hid (DBox.new w11 ly lm ld lh lmi ls)
        have HZ := Lib.hid (HZ9.out.below hbd)
        have HN := Lib.hid (HN9.out.below hbd)
        have HR := Lib.hid (HR9.out.below hbd)
        have HM := Lib.hid (HM9.out.below hbd)
        have HQR := Lib.hid (HQ9.out.below hbd)
        clear hbd HZ9 HN9 HR9 HM9 HQ9 HB11
        generalize w11.alloc (.cells #[.int .i64 ly, .int .i64 lm, .int .i64 ld, .int .i64 lh, .int .i64 lmi, .int .i64 ls] 26) = V12 at *
        obtain ⟨a15, ha15⟩ : ∃ a, w11.heap.size = a := ⟨_, rfl⟩
        rw [ha15] at HD15 ⊢
        clear ha15
        obtain ⟨x0, x1, x2⟩ := HZ.out.t10
        have zx := cell_lt x0
        obtain ⟨y0, y1⟩ := HR.out
        have zy := cell_lt y0
        go_upto_region 13 with (go_at_call 63; refine (HP2.out V12 c10 p10 cr pr HZ.out.l10 HQR.out).mono ?_; rintro e w12 ⟨rfl, hb12⟩; have HB12 := Lib.hid hb12; clear hb12)
        clear x0 x1 x2 zx y0 y1 zy HP2
        have hbd := below_alloc HB12.out (.cells #[.int .i64 ly, .int .i64 lm, .int .i64 ld, .int .i64 lh, .int .i64 lmi, .int .i64 ls] 67)
        have HD18 : Hid (DBox (w12.alloc (.cells #[.int .i64 ly, .int .i64 lm, .int .i64 ld, .int .i64 lh, .int .i64 lmi, .int .i64 ls] 67)) w12.heap.size ly lm ld lh lmi ls) := Lib.hid ⟨by simp, by simp, by simp, by simp, by simp, by simp⟩
        have HZ13 := Lib.hid (HZ.out.below hbd)
        have HN13 := Lib.hid (HN.out.below hbd)
        have HR13 := Lib.hid (HR.out.below hbd)
        have HM13 := Lib.hid (HM.out.below hbd)
        have HQ13 := Lib.hid (HQR.out.below hbd)
        have HD13 := Lib.hid (HD15.out.below hbd)
        clear hbd HZ HN HR HM HQR HD15 HB12
        generalize w12.alloc (.cells #[.int .i64 ly, .int .i64 lm, .int .i64 ld, .int .i64 lh, .int .i64 lmi, .int .i64 ls] 67) = V13 at *
        obtain ⟨a18, ha18⟩ : ∃ a, w12.heap.size = a := ⟨_, rfl⟩
        rw [ha18] at HD18 ⊢
        clear ha18
        obtain ⟨d0, d1, d2, d3, d4, d5⟩ := HD13.out
        have zd := cell_lt d0
        obtain ⟨e0, e1, e2, e3, e4, e5⟩ := HD18.out
        have ze := cell_lt e0
        obtain ⟨f0, f1, f2, f3, f4, f5⟩ := HZ13.out.d
        have zf := cell_lt f0
        go_upto_region 15 with fail
        clear e0 e1 e2 e3 e4 e5 ze HD18
        go_wp2_with fail
        clear d0 d1 d2 d3 d4 d5 zd f0 f1 f2 f3 f4 f5 zf
        have hba := below_alloc (Below.refl V13.heap.size V13) (.cells #[.int .i64 y, .int .i64 m, .int .i64 d, .int .i64 h, .int .i64 mi, .int .i64 s, .int .i64 ly, .int .i64 lm, .int .i64 ld, .int .i64 lh, .int .i64 lmi, .int .i64 ls] 26)
        have HDA := Lib.hid (dats_new V13 ⟨y, m, d, h, mi, s⟩ ⟨ly, lm, ld, lh, lmi, ls⟩ 26)
        dsimp only at HDA
        have HZ15 := Lib.hid (HZ13.out.below hba)
        have HBASE := Lib.hid HZ15.out.bel
        have HN15 := Lib.hid (HN13.out.below hba)
        have HR15 := Lib.hid (HR13.out.below hba)
        have HM15 := Lib.hid (HM13.out.below hba)
        have HQ15 := Lib.hid (HQ13.out.below hba)
        clear hba HZ13 HN13 HR13 HM13 HQ13 HD13
        generalize V13.alloc (.cells #[.int .i64 y, .int .i64 m, .int .i64 d, .int .i64 h, .int .i64 mi, .int .i64 s, .int .i64 ly, .int .i64 lm, .int .i64 ld, .int .i64 lh, .int .i64 lmi, .int .i64 ls] 26) = V15 at *
        obtain ⟨av, hav⟩ : ∃ a, V13.heap.size = a := ⟨_, rfl⟩
        rw [hav] at HDA ⊢
        clear hav
        go_loopw [22, 23, 24, 25, 26, 93] (fun s22 s23 s24 s25 s26 s93 wx => ∃ (i : Nat) (v22 v23 v24 v25 v26 : Value), i ≤ 2 ∧ s22 = v22 ∧ s23 = v23 ∧ s24 = v24 ∧ s25 = v25 ∧ s26 = v26 ∧ s93 = .int .i64 (i : Int) ∧ Hid (Below V15.heap.size V15 wx)) (fun _ _ _ _ _ s _ => 2 - (intOf s).toNat)
        case atStart => exact ⟨0, _, _, _, _, _, Nat.zero_le _, rfl, rfl, rfl, rfl, rfl, rfl, Lib.hid (Below.refl _ _)⟩
        case round =>
          obtain ⟨i, v22, v23, v24, v25, v26, hi, rfl, rfl, rfl, rfl, rfl, rfl, HBW⟩ := hrel
          by_cases hlt : i < 2
          · have hii : (i : Int) < 2 := by omega
            have vi : IntKind.i64.wrap ((i : Int) + 1) = (i : Int) + 1 := IntWalk.i64_in _ (by omega)
            have HDI := (HDA.out i hlt).below HBW.out
            obtain ⟨D6, hD6⟩ : ∃ D6, datAt ⟨y, m, d, h, mi, s⟩ ⟨ly, lm, ld, lh, lmi, ls⟩ i = D6 := ⟨_, rfl⟩
            rw [hD6] at HDI
            clear hD6
            obtain ⟨y', m', d', h', i', s'⟩ := D6
            obtain ⟨d0, d1, d2, d3, d4, d5⟩ := HDI
            dsimp only at d0 d1 d2 d3 d4 d5
            have zd := cell_lt d0
            obtain ⟨L, er, hL, hp1, hp2⟩ := HFL.out y' m' d' h' i' s'
            unfold ListR at hp1 hp2
            have HP1 := Lib.hid hp1
            have HP2 := Lib.hid hp2
            have HI := Lib.hid hlt
            clear hp1 hp2 hlt
            go_upto_region 18 with fail
            have hbd := below_alloc (Below.refl wr.heap.size wr) (.cells #[.int .i64 y', .int .i64 m', .int .i64 d', .int .i64 h', .int .i64 i', .int .i64 s'] 26)
            have HB17 := Lib.hid (bt HBW.out hbd)
            have HDD := Lib.hid (DBox.new wr y' m' d' h' i' s')
            clear hbd d0 d1 d2 d3 d4 d5 zd
            generalize wr.alloc (.cells #[.int .i64 y', .int .i64 m', .int .i64 d', .int .i64 h', .int .i64 i', .int .i64 s'] 26) = W17 at *
            obtain ⟨a22, ha22⟩ : ∃ a, wr.heap.size = a := ⟨_, rfl⟩
            rw [ha22] at HDD ⊢
            clear ha22
            obtain ⟨x0, x1, x2⟩ := HZ15.out.t9.below HB17.out
            have zx := cell_lt x0
            obtain ⟨y0, y1⟩ := HN15.out.below HB17.out
            have zy := cell_lt y0
            obtain ⟨d0, d1, d2, d3, d4, d5⟩ := HDD.out
            have zd := cell_lt d0
            go_upto_region 19 with (go_at_call 64; refine (HP1.out W17 c9 p9 cn pn (HZ15.out.mon.below HB17.out) (HZ15.out.l9.below HB17.out) (HM15.out.below HB17.out) HC9.out.1 HC9.out.2).mono ?_; rintro e w18 ⟨⟨r1, cr1, rfl, hf1⟩, hb18⟩; have HB18 := Lib.hid (bt HB17.out hb18); have HF1 := Lib.hid hf1; have HD18 := Lib.hid (HDD.out.below hb18))
            clear x0 x1 x2 zx y0 y1 zy d0 d1 d2 d3 d4 d5 zd hf1 hb18
            obtain ⟨x0, x1, x2⟩ := HZ15.out.t10.below HB18.out
            have zx := cell_lt x0
            obtain ⟨y0, y1⟩ := HR15.out.below HB18.out
            have zy := cell_lt y0
            obtain ⟨d0, d1, d2, d3, d4, d5⟩ := HD18.out
            have zd := cell_lt d0
            go_upto_region 20 with (go_at_call 65; refine (HP2.out w18 c10 p10 cr pr (HZ15.out.l10.below HB18.out) (HQ15.out.below HB18.out)).mono ?_; rintro e w19 ⟨⟨r2, cr2, rfl, hf2⟩, hb19⟩; have HB19 := Lib.hid (bt HB18.out hb19); have HF2 := Lib.hid hf2; have HF3 := Lib.hid (HF1.out.below hb19))
            clear x0 x1 x2 zx y0 y1 zy d0 d1 d2 d3 d4 d5 zd hf2 hb19
            go_wp2_with (go_at_call 27; refine (equal_yes (atL L) L.length cr1 cr2 r1 r2 w19 (by omega) HF3.out HF2.out).mono ?_; rintro e w20 ⟨rfl, hb20⟩; have HB20 := Lib.hid (bt HB19.out hb20))
            go_roundw
            case rel => exact ⟨i + 1, _, _, _, _, _, HI.out, rfl, rfl, rfl, rfl, rfl, by simp, HB20⟩
            case measure => have := HI.out; simp [intOf]; omega
          · obtain rfl : i = 2 := by omega
            have hii : ¬ ((2 : Nat) : Int) < 2 := by decide
            clear hlt
            have HZE := Lib.hid (HZ15.out.below HBW.out)
            have HME := Lib.hid (HM15.out.below HBW.out)
            have HNE := Lib.hid (HN15.out.below HBW.out)
            obtain ⟨x0, x1, x2⟩ := HZE.out.t9
            have zx := cell_lt x0
            obtain ⟨t0, t1, t2⟩ := HZE.out.t
            have zt := cell_lt t0
            have HKP := Lib.hid (kept_yes b u f n c9 c p9 p wr (by have := HN.out; omega) HZE.out.l9 HZE.out.lp)
            have HEQ := Lib.hid (fun X (hX : Below wr.heap.size wr X) => equalC_yes g k cn cz pn pz X (by have := HQ.out; omega) (HME.out.below hX) (HZE.out.lz.below hX))
            have HZZ := Lib.hid (fun X (hX : Below wr.heap.size wr X) => HZE.out.z.below hX)
            have HZY := Lib.hid (fun X (hX : Below wr.heap.size wr X) => HNE.out.below hX)
            clear HZ15 HN15 HR15 HM15 HQ15 HDA HFL HZE HNE
            have HBL := Lib.hid (bt HBASE.out HBW.out)
            go_wp2_with (first | (go_at_call 18; refine HKP.out.mono ?_; rintro e w30 ⟨rfl, hb30⟩; have zz0 := (HZZ.out _ hb30).c1; have zn0 := (HZY.out _ hb30).c1; have zzl := cell_lt zz0; have znl := cell_lt zn0; have HB30 := Lib.hid hb30) | (go_at_call 66; refine (HEQ.out _ HB30.out).mono ?_; rintro e w31 ⟨rfl, hb31⟩; have HB31 := Lib.hid (bt (bt HBL.out HB30.out) hb31)))
            go_ret
            exact ⟨rfl, HB31.out⟩
end Go.Proofs.YtgnfaemnehmgcaaGreatDoor.Cal
