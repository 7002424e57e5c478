/-  ·  ·  -/
import Derived.Test.YtgnfaemnehmgcaaGreatDoorQ04
import Derived.Test.YtgnfaemnehmgcaaGreatDoorQ25
import Derived.Test.YtgnfaemnehmgcaaGreatDoorQ38
namespace Go.Proofs.YtgnfaemnehmgcaaGreatDoor.Cal
open Go Go.RowKit
attribute [local go_sem] Oper.semAt_some
def firstE (g : Nat → Int) : Nat → Int
  | 0 => 0
  | k + 1 => if firstE g k = 0 then g k else firstE g k
theorem firstE_stop {g : Nat → Int} {k : Nat} (h : firstE g k ≠ 0) : ∀ n, k ≤ n → firstE g n = firstE g k
  | 0, hn => by
    have : k = 0 := by omega
    subst this; rfl
  | n + 1, hn => by
    by_cases e : k = n + 1
    · subst e; rfl
    · have i := firstE_stop h n (by omega)
      rw [firstE, i, if_neg h]
theorem firstE_at {g : Nat → Int} {k n : Nat} (hk : k < n) (h0 : firstE g k = 0) (h : g k ≠ 0) : firstE g n = g k := by
  have e : firstE g (k + 1) = g k := by rw [firstE, if_pos h0]
  rw [firstE_stop (k := k + 1) (by rw [e]; exact h) n hk, e]
def offB (x : Int) : Bool := decide (-1440 ≤ x) && decide (x ≤ 1440)
def prevZ (f : Nat → Int × Int) (k : Nat) : Int := if k = 0 then -1 else (f (k - 1)).1
def chE (f : Nat → Int × Int) (k : Nat) : Int := if offB (f k).2 = true then if 0 ≤ (f k).1 then if prevZ f k < (f k).1 then 0 else 11 else 6 else 6
def zoneE (o : Int) (n : Nat) (f : Nat → Int × Int) : Int := if n ≤ 200 then if offB o = true then firstE (chE f) n else 6 else 2
structure ZBox (w : World) (a : Nat) (o : Int) (n c : Nat) (p : Option Addr) : Prop where
  c0 : w.cell? ⟨a, 0, none⟩ = some (.int .i64 o)
  c1 : w.cell? ⟨a, 1, none⟩ = some (.slice p n c)
theorem ZBox.below {w w' : World} {a : Nat} {o : Int} {n c : Nat} {p : Option Addr} (h : ZBox w a o n c p) (hb : Below w.heap.size w w') : ZBox w' a o n c p := ⟨cell_below hb h.c0, cell_below hb h.c1⟩
theorem ZBox.new (w : World) (o : Int) (n c : Nat) (p : Option Addr) (t : TypeId) : ZBox (w.alloc (.cells #[.int .i64 o, .slice p n c] t)) w.heap.size o n c p := ⟨by simp, by simp⟩
theorem isOffset_any (x : Int) (w : World) :
    Calls Tryz.prog 117 #[.int .i64 x] w fun e w' => e = .returned (.bool (offB x)) ∧ w = w' := by
  have HV := Lib.hid (show (decide (-1440 ≤ x) && decide (x ≤ 1440)) = offB x from rfl)
  go_enter Tryz.func117, Tryz.ntmps117
  go_wp2_with (go_at_call 67; refine (within_any _ _ _ _).mono ?_; rintro e w' ⟨rfl, rfl⟩)
  go_ret
  exact ⟨ret_bool HV.out, rfl⟩
set_option maxHeartbeats 1000000 in
theorem CheckZone_any (o : Int) (n c : Nat) (p : Option Addr) (f : Nat → Int × Int) (w : World) (hs : LpIn w f n p) (hn : n ≤ 1000000000000) :
    Calls Tryz.prog 60 #[.agg #[.int .i64 o, .slice p n c]] w fun e w' => e = .returned (.int .i64 (zoneE o n f)) ∧ Below w.heap.size w w' := by
  have A0 := below_alloc (Below.refl w.heap.size w) (.cells #[.int .i64 o, .slice p n c] 38)
  obtain ⟨x0, x1⟩ := ZBox.new w o n c p 38
  have HBX := Lib.hid (ZBox.new w o n c p 38)
  have HS := Lib.hid (hs.below A0)
  have A0 := Lib.hid A0
  clear hs
  by_cases h3 : n ≤ 200
  · have h3i : ¬ (200 : Int) < n := by omega
    cases h1 : offB o
    · have HV := Lib.hid (show zoneE o n f = 6 by unfold zoneE; rw [if_pos h3, h1]; rfl)
      have H1 := Lib.hid h1
      clear h1 h3
      rw [HV.out]
      go_enter Tryz.func60, Tryz.ntmps60
      go_wp2_with (go_at_call 117; refine (isOffset_any _ _).mono ?_; rintro e w' ⟨rfl, rfl⟩; rw [H1.out])
      go_ret
      exact ⟨rfl, A0.out⟩
    · have HV := Lib.hid (show zoneE o n f = firstE (chE f) n by unfold zoneE; rw [if_pos h3, if_pos h1])
      have H1 := Lib.hid h1
      have H3 := Lib.hid h3
      clear h1 h3
      rw [HV.out]
      go_enter Tryz.func60, Tryz.ntmps60
      go_wp2_with (go_at_call 117; refine (isOffset_any _ _).mono ?_; rintro e w' ⟨rfl, rfl⟩; rw [H1.out])
      generalize w.alloc (.cells #[.int .i64 o, .slice p n c] 38) = W0 at *
      go_loopw [2, 3, 5, 17, 21, 31] (fun s2 s3 s5 s17 s21 s31 wr => ∃ (k : Nat) (a5 a21 a31 : Value), k ≤ n ∧ s2 = .int .i64 0 ∧ s3 = .int .i64 (prevZ f k) ∧ s5 = a5 ∧ s17 = .int .i64 (k : Int) ∧ s21 = a21 ∧ s31 = a31 ∧ Hid (firstE (chE f) k = 0) ∧ Hid (Below W0.heap.size W0 wr)) (fun _ _ _ s _ _ _ => n - (intOf s).toNat)
      case atStart => exact ⟨0, _, _, _, Nat.zero_le _, rfl, rfl, rfl, rfl, rfl, rfl, Lib.hid rfl, Lib.hid (Below.refl _ _)⟩
      case round =>
        clear x0 x1
        obtain ⟨k, a5, a21, a31, hk, rfl, rfl, rfl, rfl, rfl, rfl, HL, HBW⟩ := hrel
        have hn3 := H3.out
        by_cases hlt : k < n
        · have hki : (k : Int) < n := by omega
          have vk : IntKind.i64.wrap ((k : Int) + 1) = (k : Int) + 1 := IntWalk.i64_in _ (by omega)
          obtain ⟨bb, oo, rfl, hsi⟩ := HS.out.resolve_left (by omega)
          obtain ⟨y0, y1⟩ := (hsi.below HBW.out) k hlt
          have zy := cell_lt y0
          have HEF : Hid (chE f k = if offB (f k).2 = true then if 0 ≤ (f k).1 then if prevZ f k < (f k).1 then 0 else 11 else 6 else 6) := Lib.hid rfl
          have HAT := Lib.hid (fun h => firstE_at (g := chE f) hlt HL.out h)
          have HSU := Lib.hid (show chE f k = 0 → firstE (chE f) (k + 1) = 0 from fun h => by rw [firstE, if_pos HL.out]; exact h)
          have HNX := Lib.hid (show (f k).1 = prevZ f (k + 1) by unfold prevZ; rw [if_neg (by omega), Nat.add_sub_cancel])
          have hb1 := below_alloc (Below.refl wr.heap.size wr) (.cells #[.int .i64 (f k).1, .int .i64 (f k).2] 35)
          have q0 : (wr.alloc (.cells #[.int .i64 (f k).1, .int .i64 (f k).2] 35)).cell? ⟨wr.heap.size, 0, none⟩ = some (.int .i64 (f k).1) := by simp
          have q1 : (wr.alloc (.cells #[.int .i64 (f k).1, .int .i64 (f k).2] 35)).cell? ⟨wr.heap.size, 1, none⟩ = some (.int .i64 (f k).2) := by simp
          have HB1 := Lib.hid hb1
          have HK := Lib.hid hlt
          clear hlt hsi hb1
          generalize (f k).1 = dk at *
          generalize (f k).2 = sk at *
          generalize prevZ f k = bk at *
          go_upto_region 9 with fail
          generalize wr.alloc (.cells #[.int .i64 dk, .int .i64 sk] 35) = W1 at *
          have zq := cell_lt q0
          clear y0 y1 zy
          cases cl : offB sk
          · have HE := Lib.hid (show (6 : Int) = firstE (chE f) n by
              have e : chE f k = 6 := by rw [HEF.out, cl]; rfl
              rw [HAT.out (by rw [e]; decide), e])
            have HCL := Lib.hid cl
            clear cl
            go_wp2_with (go_at_call 117; refine (isOffset_any _ _).mono ?_; rintro e w' ⟨rfl, rfl⟩; rw [HCL.out])
            go_ret
            exact ⟨ret_i64 HE.out, bt (bt A0.out HBW.out) HB1.out⟩
          · have HCL := Lib.hid cl
            clear cl
            by_cases hz : dk < 0
            · have HE := Lib.hid (show (6 : Int) = firstE (chE f) n by
                have e : chE f k = 6 := by rw [HEF.out, HCL.out, if_pos rfl, if_neg (by omega)]
                rw [HAT.out (by rw [e]; decide), e])
              go_wp2_with (go_at_call 117; refine (isOffset_any _ _).mono ?_; rintro e w' ⟨rfl, rfl⟩; rw [HCL.out])
              go_ret
              exact ⟨ret_i64 HE.out, bt (bt A0.out HBW.out) HB1.out⟩
            · by_cases ch : bk < dk
              · have HE := Lib.hid (show chE f k = 0 by rw [HEF.out, HCL.out, if_pos rfl, if_pos (by omega), if_pos ch])
                have hni : ¬ dk ≤ bk := by omega
                go_wp2_with (go_at_call 117; refine (isOffset_any _ _).mono ?_; rintro e w' ⟨rfl, rfl⟩; rw [HCL.out])
                go_roundw
                case rel => exact ⟨k + 1, _, _, _, HK.out, rfl, by rw [← HNX.out], rfl, by simp, rfl, rfl, Lib.hid (HSU.out HE.out), Lib.hid (bt HBW.out HB1.out)⟩
                case measure => have := HK.out; simp [intOf]; omega
              · have HE := Lib.hid (show (11 : Int) = firstE (chE f) n by
                  have e : chE f k = 11 := by rw [HEF.out, HCL.out, if_pos rfl, if_pos (by omega), if_neg ch]
                  rw [HAT.out (by rw [e]; decide), e])
                have hni : dk ≤ bk := by omega
                go_wp2_with (go_at_call 117; refine (isOffset_any _ _).mono ?_; rintro e w' ⟨rfl, rfl⟩; rw [HCL.out])
                go_ret
                exact ⟨ret_i64 HE.out, bt (bt A0.out HBW.out) HB1.out⟩
        · obtain rfl : k = n := by omega
          have hki : ¬ ((k : Int) < k) := by omega
          have HE := Lib.hid HL.out.symm
          generalize prevZ f k = bk at *
          go_wp2_with fail
          go_ret
          exact ⟨ret_i64 HE.out, bt A0.out HBW.out⟩
  · have h3i : (200 : Int) < n := by omega
    have HV := Lib.hid (show zoneE o n f = 2 by unfold zoneE; rw [if_neg h3])
    clear h3
    rw [HV.out]
    go_enter Tryz.func60, Tryz.ntmps60
    go_wp2_with fail
    go_ret
    exact ⟨rfl, A0.out⟩
end Go.Proofs.YtgnfaemnehmgcaaGreatDoor.Cal
namespace Go.Proofs.YtgnfaemnehmgcaaGreatDoor.Cal
open Go Go.RowKit
attribute [local go_sem] Oper.semAt_some
def IntsAt (X : World) (blk n : Nat) : Prop := ∀ j, j < n → ∃ v, X.cell? ⟨blk, j, none⟩ = some (.int .i64 v) ∧ -10000000000000 ≤ v ∧ v ≤ 10000000000000
theorem IntsAt.below {X Y : World} {blk n : Nat} (h : IntsAt X blk n) (hb : Below X.heap.size X Y) : IntsAt Y blk n :=
  fun j hj => (h j hj).imp fun _ q => ⟨cell_below hb q.1, q.2⟩
theorem ints_new (w : World) (l : List Int) (t : TypeId) (hl : ∀ x ∈ l, -10000000000000 ≤ x ∧ x ≤ 10000000000000) : IntsAt (w.alloc (.cells (l.map (Value.int .i64)).toArray t)) w.heap.size l.length := by
  intro j hj
  refine ⟨l[j], ?_, hl _ (List.getElem_mem hj)⟩
  simp [hj]
structure SmA (w X : World) : Prop where
  mon : Mon X
  pow : Pow X
  bel : Below w.heap.size w X
theorem SmA.below {w X Y : World} (h : SmA w X) (hb : Below X.heap.size X Y) : SmA w Y := ⟨h.mon.below hb, h.pow.below hb, bt h.bel hb⟩
structure SmZ (w X : World) (a7 bz : Nat) (g : Nat → Int × Int) : Prop where
  a : SmA w X
  z : ZBox X a7 60 3 3 (some ⟨bz, 0, none⟩)
  lz : LpAt X g 3 bz 0
  gb : ∀ i, i < 3 → (g i).1 ≤ 9223372036854775807
theorem SmZ.below {w X Y : World} {a7 bz : Nat} {g : Nat → Int × Int} (h : SmZ w X a7 bz g) (hb : Below X.heap.size X Y) : SmZ w Y a7 bz g := ⟨h.a.below hb, h.z.below hb, h.lz.below hb, h.gb⟩
theorem lp_new (w : World) (l : List (Int × Int)) (t : TypeId) (vs : Array Value) (hv : vs = (l.flatMap fun x => [Value.int .i64 x.1, Value.int .i64 x.2]).toArray) : LpAt (w.alloc (.cells vs t)) (fun i => l[i]?.getD (0, 0)) l.length w.heap.size 0 := by
  subst hv
  have key : ∀ (l : List (Int × Int)) (i : Nat), i < l.length → (l.flatMap fun x => [Value.int .i64 x.1, Value.int .i64 x.2])[i * 2]? = some (.int .i64 (l[i]?.getD (0, 0)).1) ∧ (l.flatMap fun x => [Value.int .i64 x.1, Value.int .i64 x.2])[i * 2 + 1]? = some (.int .i64 (l[i]?.getD (0, 0)).2) := by
    intro l
    induction l with
    | nil => intro i hi; simp at hi
    | cons x l ih =>
      intro i hi
      match i with
      | 0 => simp
      | i + 1 =>
        have := ih i (by simpa using hi)
        rw [show (i + 1) * 2 = i * 2 + 1 + 1 by omega]
        simpa using this
  intro i hi
  obtain ⟨h1, h2⟩ := key l i hi
  simp only [Nat.zero_add]
  constructor
  · rw [World.cell?_alloc_new]
    simpa using h1
  · rw [World.cell?_alloc_new]
    simpa using h2
theorem example_own (w : World) :
    Calls Tryz.prog 12 #[] w fun e w' => ∃ bl, e = .returned (.agg #[.int .i64 10, .slice (some ⟨bl, 0, none⟩) 2 2, .int .i64 42000]) ∧ LpAt w' exF 2 bl 0 ∧ w.heap.size ≤ bl ∧ (∀ i, w'.frozen? ⟨bl, i, none⟩ = false) ∧ Below w.heap.size w w' := by
  go_enter Tryz.func12, Tryz.ntmps12
  go_wp2
  refine bodyPost_ret (v := .agg #[.int .i64 10, .slice (some ⟨w.heap.size + 1, 0, none⟩) 2 2, .int .i64 42000]) (by simp [results, Tryz.results12, go_sem]) rfl ⟨w.heap.size + 1, rfl, fun i hi => ?_, by omega, fun i => ?_, below_alloc (below_alloc (Below.refl _ _) _) _⟩
  · have : i = 0 ∨ i = 1 := by omega
    have e : (w.alloc (.cells #[.int .i64 10, .slice (some ⟨w.heap.size + 1, 0, none⟩) 2 2, .int .i64 42000] 24)).heap.size = w.heap.size + 1 := by simp
    generalize w.alloc (.cells #[.int .i64 10, .slice (some ⟨w.heap.size + 1, 0, none⟩) 2 2, .int .i64 42000] 24) = W at *
    rw [← e]
    rcases this with rfl | rfl <;> exact ⟨by simp; rfl, by simp; rfl⟩
  · have e : (w.alloc (.cells #[.int .i64 10, .slice (some ⟨w.heap.size + 1, 0, none⟩) 2 2, .int .i64 42000] 24)).heap.size = w.heap.size + 1 := by simp
    generalize w.alloc (.cells #[.int .i64 10, .slice (some ⟨w.heap.size + 1, 0, none⟩) 2 2, .int .i64 42000] 24) = W at *
    rw [← e]
    simp
structure SmT (w X : World) (a6 bt a7 bz : Nat) (g gz : Nat → Int × Int) (blk n : Nat) : Prop where
  z : SmZ w X a7 bz gz
  t : TBox X a6 10 41683 4 4 (some ⟨bt, 0, none⟩)
  lt : LpAt X g 4 bt 0
  il : IntsAt X blk n
theorem SmT.below {w X Y : World} {a6 bt a7 bz : Nat} {g gz : Nat → Int × Int} {blk n : Nat} (h : SmT w X a6 bt a7 bz g gz blk n) (hb : Below X.heap.size X Y) : SmT w Y a6 bt a7 bz g gz blk n :=
  ⟨h.z.below hb, h.t.below hb, h.lt.below hb, h.il.below hb⟩
structure SmG (w X : World) (a15 bg a7 bz : Nat) (g gz : Nat → Int × Int) (blk n : Nat) : Prop where
  z : SmZ w X a7 bz gz
  t : TBox X a15 19 60000 1 1 (some ⟨bg, 0, none⟩)
  lt : LpAt X g 1 bg 0
  il : IntsAt X blk n
theorem SmG.below {w X Y : World} {a15 bg a7 bz : Nat} {g gz : Nat → Int × Int} {blk n : Nat} (h : SmG w X a15 bg a7 bz g gz blk n) (hb : Below X.heap.size X Y) : SmG w Y a15 bg a7 bz g gz blk n :=
  ⟨h.z.below hb, h.t.below hb, h.lt.below hb, h.il.below hb⟩
end Go.Proofs.YtgnfaemnehmgcaaGreatDoor.Cal
namespace Go.Proofs.YtgnfaemnehmgcaaGreatDoor.Cal
open Go Go.RowKit
theorem set_same {X : World} {b o : Nat} {v x : Value} (h : X.cell? ⟨b, o, none⟩ = some x) : (X.setCell ⟨b, o, none⟩ v).cell? ⟨b, o, none⟩ = some v := World.cell?_setCell_same _ _ _ h
theorem set_far {X : World} {b o b' o' : Nat} {v x : Value} (hne : b ≠ b' ∨ o ≠ o') (h : X.cell? ⟨b', o', none⟩ = some x) : (X.setCell ⟨b, o, none⟩ v).cell? ⟨b', o', none⟩ = some x := by
  rw [World.cell?_setCell_other _ ⟨b, o, none⟩ ⟨b', o', none⟩ _ (fun e => by injection e; omega)]; exact h
structure ExB (B X : World) (a bl : Nat) (b u : Int) (g : Nat → Int × Int) : Prop where
  t : TBox X a b u 2 2 (some ⟨bl, 0, none⟩)
  l : LpAt X g 2 bl 0
  fa : ∀ i, X.frozen? ⟨a, i, none⟩ = false
  fb : ∀ i, X.frozen? ⟨bl, i, none⟩ = false
  ne : a ≠ bl
  ga : B.heap.size ≤ a
  gb : B.heap.size ≤ bl
  bel : Below B.heap.size B X
theorem ExB.below {B X Y : World} {a bl : Nat} {b u : Int} {g : Nat → Int × Int} (h : ExB B X a bl b u g) (hb : Below X.heap.size X Y) : ExB B Y a bl b u g :=
  ⟨h.t.below hb, h.l.below hb, fun i => (hb.frozen (p := ⟨a, i, none⟩) (cell_lt h.t.c0)).trans (h.fa i), fun i => (hb.frozen (p := ⟨bl, i, none⟩) (cell_lt (h.l 0 (by decide)).1)).trans (h.fb i), h.ne, h.ga, h.gb, bt h.bel hb⟩
theorem ExB.new {B X : World} {bl : Nat} {g : Nat → Int × Int} (hl : LpAt X g 2 bl 0) (hB : B.heap.size ≤ bl) (hf : ∀ i, X.frozen? ⟨bl, i, none⟩ = false) (hb : Below B.heap.size B X) (b u : Int) :
    ExB B (X.alloc (.cells #[.int .i64 b, .slice (some ⟨bl, 0, none⟩) 2 2, .int .i64 u] 24)) X.heap.size bl b u g := by
  have k := below_alloc (Below.refl X.heap.size X) (.cells #[.int .i64 b, .slice (some ⟨bl, 0, none⟩) 2 2, .int .i64 u] 24)
  have hlt : bl < X.heap.size := cell_lt (hl 0 (by decide)).1
  exact ⟨TBox.new X b u 2 2 _ _, hl.below k, fun i => by simp, fun i => (k.frozen (p := ⟨bl, i, none⟩) hlt).trans (hf i), by omega, by omega, hB, bt hb k⟩
def exBlk (a bl i : Nat) : Nat := if i < 2 then a else bl
def exOff (i : Nat) : Nat := match i with | 0 => 0 | 1 => 2 | 2 => 0 | 3 => 2 | 4 => 1 | _ => 3
theorem ExB.put {B X : World} {a bl : Nat} {b u : Int} {g : Nat → Int × Int} (h : ExB B X a bl b u g) {i : Nat} (hi : i < 6) :
    (∃ x, X.cell? ⟨exBlk a bl i, exOff i, none⟩ = some (.int .i64 x)) ∧ X.frozen? ⟨exBlk a bl i, exOff i, none⟩ = false ∧ ∀ v : Int, ∃ b' u' g', ExB B (X.setCell ⟨exBlk a bl i, exOff i, none⟩ (.int .i64 v)) a bl b' u' g' := by
  obtain ⟨⟨c0, c1, c2⟩, hl, fa, fb, ne, ga, gb, bel⟩ := h
  have l0 := hl 0 (by decide)
  have l1 := hl 1 (by decide)
  have lp : ∀ (Y : World) (p0 q0 p1 q1 : Int), Y.cell? ⟨bl, 0 + 0 * 2, none⟩ = some (.int .i64 p0) → Y.cell? ⟨bl, 0 + 0 * 2 + 1, none⟩ = some (.int .i64 q0) → Y.cell? ⟨bl, 0 + 1 * 2, none⟩ = some (.int .i64 p1) → Y.cell? ⟨bl, 0 + 1 * 2 + 1, none⟩ = some (.int .i64 q1) →
      LpAt Y (fun j => if j = 0 then (p0, q0) else (p1, q1)) 2 bl 0 := fun Y p0 q0 p1 q1 h0 h1 h2 h3 j hj => by
    rcases (by omega : j = 0 ∨ j = 1) with rfl | rfl
    · exact ⟨h0, h1⟩
    · exact ⟨h2, h3⟩
  have nb : ¬ bl = a := fun e => ne e.symm
  rcases (by omega : i = 0 ∨ i = 1 ∨ i = 2 ∨ i = 3 ∨ i = 4 ∨ i = 5) with rfl | rfl | rfl | rfl | rfl | rfl
  · refine ⟨⟨_, c0⟩, fa 0, fun v => ⟨v, u, _, ⟨set_same c0, set_far (.inr (by decide)) c1, set_far (.inr (by decide)) c2⟩, lp _ _ _ _ _ (set_far (.inl ne) l0.1) (set_far (.inl ne) l0.2) (set_far (.inl ne) l1.1) (set_far (.inl ne) l1.2), fun i => ?_, fun i => ?_, ne, ga, gb, bel.setCell (p := ⟨a, 0, none⟩) ga _⟩⟩
    · rw [World.frozen?_setCell]; exact fa i
    · rw [World.frozen?_setCell]; exact fb i
  · refine ⟨⟨_, c2⟩, fa 2, fun v => ⟨b, v, _, ⟨set_far (.inr (by decide)) c0, set_far (.inr (by decide)) c1, set_same c2⟩, lp _ _ _ _ _ (set_far (.inl ne) l0.1) (set_far (.inl ne) l0.2) (set_far (.inl ne) l1.1) (set_far (.inl ne) l1.2), fun i => ?_, fun i => ?_, ne, ga, gb, bel.setCell (p := ⟨a, 2, none⟩) ga _⟩⟩
    · rw [World.frozen?_setCell]; exact fa i
    · rw [World.frozen?_setCell]; exact fb i
  · refine ⟨⟨_, l0.1⟩, fb 0, fun v => ⟨b, u, _, ⟨set_far (.inl nb) c0, set_far (.inl nb) c1, set_far (.inl nb) c2⟩, lp _ _ _ _ _ (set_same l0.1) (set_far (.inr (by decide)) l0.2) (set_far (.inr (by decide)) l1.1) (set_far (.inr (by decide)) l1.2), fun i => ?_, fun i => ?_, ne, ga, gb, bel.setCell (p := ⟨bl, 0, none⟩) gb _⟩⟩
    · rw [World.frozen?_setCell]; exact fa i
    · rw [World.frozen?_setCell]; exact fb i
  · refine ⟨⟨_, l1.1⟩, fb 2, fun v => ⟨b, u, _, ⟨set_far (.inl nb) c0, set_far (.inl nb) c1, set_far (.inl nb) c2⟩, lp _ _ _ _ _ (set_far (.inr (by decide)) l0.1) (set_far (.inr (by decide)) l0.2) (set_same l1.1) (set_far (.inr (by decide)) l1.2), fun i => ?_, fun i => ?_, ne, ga, gb, bel.setCell (p := ⟨bl, 2, none⟩) gb _⟩⟩
    · rw [World.frozen?_setCell]; exact fa i
    · rw [World.frozen?_setCell]; exact fb i
  · refine ⟨⟨_, l0.2⟩, fb 1, fun v => ⟨b, u, _, ⟨set_far (.inl nb) c0, set_far (.inl nb) c1, set_far (.inl nb) c2⟩, lp _ _ _ _ _ (set_far (.inr (by decide)) l0.1) (set_same l0.2) (set_far (.inr (by decide)) l1.1) (set_far (.inr (by decide)) l1.2), fun i => ?_, fun i => ?_, ne, ga, gb, bel.setCell (p := ⟨bl, 1, none⟩) gb _⟩⟩
    · rw [World.frozen?_setCell]; exact fa i
    · rw [World.frozen?_setCell]; exact fb i
  · refine ⟨⟨_, l1.2⟩, fb 3, fun v => ⟨b, u, _, ⟨set_far (.inl nb) c0, set_far (.inl nb) c1, set_far (.inl nb) c2⟩, lp _ _ _ _ _ (set_far (.inr (by decide)) l0.1) (set_far (.inr (by decide)) l0.2) (set_far (.inr (by decide)) l1.1) (set_same l1.2), fun i => ?_, fun i => ?_, ne, ga, gb, bel.setCell (p := ⟨bl, 3, none⟩) gb _⟩⟩
    · rw [World.frozen?_setCell]; exact fa i
    · rw [World.frozen?_setCell]; exact fb i
structure DtB (B X : World) (a : Nat) (d : Nat → Int) : Prop where
  c : ∀ i, i < 6 → X.cell? ⟨a, i, none⟩ = some (.int .i64 (d i))
  fa : ∀ i, X.frozen? ⟨a, i, none⟩ = false
  bd : ∀ i, i < 6 → -9223372036854775808 ≤ d i ∧ d i ≤ 9223372036854775807
  ga : B.heap.size ≤ a
  bel : Below B.heap.size B X
theorem DtB.below {B X Y : World} {a : Nat} {d : Nat → Int} (h : DtB B X a d) (hb : Below X.heap.size X Y) : DtB B Y a d :=
  ⟨fun i hi => cell_below hb (h.c i hi), fun i => (hb.frozen (p := ⟨a, i, none⟩) (cell_lt (h.c 0 (by decide)))).trans (h.fa i), h.bd, h.ga, bt h.bel hb⟩
theorem DtB.new (X : World) : DtB X (X.alloc (.cells #[.int .i64 1972, .int .i64 6, .int .i64 30, .int .i64 23, .int .i64 59, .int .i64 59] 26)) X.heap.size (fun i => ([1972, 6, 30, 23, 59, 59] : List Int)[i]?.getD 0) := by
  refine ⟨fun i hi => ?_, fun i => by simp, fun i hi => ?_, Nat.le_refl _, below_alloc (Below.refl _ _) _⟩
  · rcases (by omega : i = 0 ∨ i = 1 ∨ i = 2 ∨ i = 3 ∨ i = 4 ∨ i = 5) with rfl | rfl | rfl | rfl | rfl | rfl <;> simp
  · rcases (by omega : i = 0 ∨ i = 1 ∨ i = 2 ∨ i = 3 ∨ i = 4 ∨ i = 5) with rfl | rfl | rfl | rfl | rfl | rfl <;> decide
theorem DtB.put {B X : World} {a : Nat} {d : Nat → Int} (h : DtB B X a d) {i : Nat} (hi : i < 6) {v : Int} (hv : -9223372036854775808 ≤ v ∧ v ≤ 9223372036854775807) :
    DtB B (X.setCell ⟨a, i, none⟩ (.int .i64 v)) a (fun j => if j = i then v else d j) := by
  refine ⟨fun j hj => ?_, fun j => by rw [World.frozen?_setCell]; exact h.fa j, fun j hj => ?_, h.ga, h.bel.setCell (p := ⟨a, i, none⟩) h.ga _⟩
  · by_cases e : j = i
    · subst e
      simp only [if_pos]
      exact set_same (h.c j hj)
    · simp only [if_neg e]
      exact set_far (.inr (fun q => e q.symm)) (h.c j hj)
  · by_cases e : j = i
    · simp only [if_pos e]; exact hv
    · simp only [if_neg e]; exact h.bd j hj
structure ZnB (B X : World) (a bl : Nat) (o : Int) (g : Nat → Int × Int) : Prop where
  t : ZBox X a o 2 2 (some ⟨bl, 0, none⟩)
  l : LpAt X g 2 bl 0
  fa : ∀ i, X.frozen? ⟨a, i, none⟩ = false
  fb : ∀ i, X.frozen? ⟨bl, i, none⟩ = false
  gb9 : ∀ i, i < 2 → (g i).1 ≤ 9223372036854775807
  ne : a ≠ bl
  ga : B.heap.size ≤ a
  gb : B.heap.size ≤ bl
  bel : Below B.heap.size B X
theorem ZnB.below {B X Y : World} {a bl : Nat} {o : Int} {g : Nat → Int × Int} (h : ZnB B X a bl o g) (hb : Below X.heap.size X Y) : ZnB B Y a bl o g :=
  ⟨h.t.below hb, h.l.below hb, fun i => (hb.frozen (p := ⟨a, i, none⟩) (cell_lt h.t.c0)).trans (h.fa i), fun i => (hb.frozen (p := ⟨bl, i, none⟩) (cell_lt (h.l 0 (by decide)).1)).trans (h.fb i), h.gb9, h.ne, h.ga, h.gb, bt h.bel hb⟩
def znBlk (a bl i : Nat) : Nat := if i < 1 then a else bl
theorem ZnB.put {B X : World} {a bl : Nat} {o : Int} {g : Nat → Int × Int} (h : ZnB B X a bl o g) {i : Nat} (hi : i < 3) :
    (∃ x, X.cell? ⟨znBlk a bl i, i, none⟩ = some (.int .i64 x)) ∧ X.frozen? ⟨znBlk a bl i, i, none⟩ = false ∧ ∀ v : Int, v ≤ 9223372036854775807 → ∃ o' g', ZnB B (X.setCell ⟨znBlk a bl i, i, none⟩ (.int .i64 v)) a bl o' g' := by
  obtain ⟨⟨c0, c1⟩, hl, fa, fb, g9, ne, ga, gb, bel⟩ := h
  have l0 := hl 0 (by decide)
  have l1 := hl 1 (by decide)
  have g0 := g9 0 (by decide)
  have g1 := g9 1 (by decide)
  have lp : ∀ (Y : World) (p0 q0 p1 q1 : Int), Y.cell? ⟨bl, 0 + 0 * 2, none⟩ = some (.int .i64 p0) → Y.cell? ⟨bl, 0 + 0 * 2 + 1, none⟩ = some (.int .i64 q0) → Y.cell? ⟨bl, 0 + 1 * 2, none⟩ = some (.int .i64 p1) → Y.cell? ⟨bl, 0 + 1 * 2 + 1, none⟩ = some (.int .i64 q1) →
      LpAt Y (fun j => if j = 0 then (p0, q0) else (p1, q1)) 2 bl 0 := fun Y p0 q0 p1 q1 h0 h1 h2 h3 j hj => by
    rcases (by omega : j = 0 ∨ j = 1) with rfl | rfl
    · exact ⟨h0, h1⟩
    · exact ⟨h2, h3⟩
  have bd : ∀ (p0 q0 p1 q1 : Int), p0 ≤ 9223372036854775807 → p1 ≤ 9223372036854775807 → ∀ j, j < 2 → ((fun j : Nat => if j = 0 then (p0, q0) else (p1, q1)) j).1 ≤ 9223372036854775807 := fun p0 q0 p1 q1 h0 h1 j hj => by
    rcases (by omega : j = 0 ∨ j = 1) with rfl | rfl
    · exact h0
    · exact h1
  have nb : ¬ bl = a := fun e => ne e.symm
  rcases (by omega : i = 0 ∨ i = 1 ∨ i = 2) with rfl | rfl | rfl
  · refine ⟨⟨_, c0⟩, fa 0, fun v hv => ⟨v, _, ⟨set_same c0, set_far (.inr (by decide)) c1⟩, lp _ _ _ _ _ (set_far (.inl ne) l0.1) (set_far (.inl ne) l0.2) (set_far (.inl ne) l1.1) (set_far (.inl ne) l1.2), fun i => ?_, fun i => ?_, bd _ _ _ _ g0 g1, ne, ga, gb, bel.setCell (p := ⟨a, 0, none⟩) ga _⟩⟩
    · rw [World.frozen?_setCell]; exact fa i
    · rw [World.frozen?_setCell]; exact fb i
  · refine ⟨⟨_, l0.2⟩, fb 1, fun v hv => ⟨o, _, ⟨set_far (.inl nb) c0, set_far (.inl nb) c1⟩, lp _ _ _ _ _ (set_far (.inr (by decide)) l0.1) (set_same l0.2) (set_far (.inr (by decide)) l1.1) (set_far (.inr (by decide)) l1.2), fun i => ?_, fun i => ?_, bd _ _ _ _ g0 g1, ne, ga, gb, bel.setCell (p := ⟨bl, 1, none⟩) gb _⟩⟩
    · rw [World.frozen?_setCell]; exact fa i
    · rw [World.frozen?_setCell]; exact fb i
  · refine ⟨⟨_, l1.1⟩, fb 2, fun v hv => ⟨o, _, ⟨set_far (.inl nb) c0, set_far (.inl nb) c1⟩, lp _ _ _ _ _ (set_far (.inr (by decide)) l0.1) (set_far (.inr (by decide)) l0.2) (set_same l1.1) (set_far (.inr (by decide)) l1.2), fun i => ?_, fun i => ?_, bd _ _ _ _ g0 hv, ne, ga, gb, bel.setCell (p := ⟨bl, 2, none⟩) gb _⟩⟩
    · rw [World.frozen?_setCell]; exact fa i
    · rw [World.frozen?_setCell]; exact fb i
theorem ZnB.new (X : World) : ZnB X ((X.alloc (.cells #[.int .i64 100, .int .i64 60, .int .i64 41499, .int .i64 (-60)] 35)).alloc (.cells #[.int .i64 30, .slice (some ⟨X.heap.size, 0, none⟩) 2 2] 38)) (X.heap.size + 1) X.heap.size 30 (fun i : Nat => ([(100, 60), (41499, -60)] : List (Int × Int))[i]?.getD (0, 0)) := by
  have b1 := below_alloc (Below.refl X.heap.size X) (.cells #[.int .i64 100, .int .i64 60, .int .i64 41499, .int .i64 (-60)] 35)
  have L1 : LpAt (X.alloc (.cells #[.int .i64 100, .int .i64 60, .int .i64 41499, .int .i64 (-60)] 35)) (fun i : Nat => ([(100, 60), (41499, -60)] : List (Int × Int))[i]?.getD (0, 0)) 2 X.heap.size 0 := lp_new X [(100, 60), (41499, -60)] _ _ rfl
  have f1 : ∀ i, (X.alloc (.cells #[.int .i64 100, .int .i64 60, .int .i64 41499, .int .i64 (-60)] 35)).frozen? ⟨X.heap.size, i, none⟩ = false := fun i => by simp
  have e1 : (X.alloc (.cells #[.int .i64 100, .int .i64 60, .int .i64 41499, .int .i64 (-60)] 35)).heap.size = X.heap.size + 1 := by simp
  generalize X.alloc (.cells #[.int .i64 100, .int .i64 60, .int .i64 41499, .int .i64 (-60)] 35) = W1 at *
  have b2 := below_alloc (Below.refl W1.heap.size W1) (.cells #[.int .i64 30, .slice (some ⟨X.heap.size, 0, none⟩) 2 2] 38)
  have Z1 := ZBox.new W1 30 2 2 (some ⟨X.heap.size, 0, none⟩) 38
  have f2 : ∀ i, (W1.alloc (.cells #[.int .i64 30, .slice (some ⟨X.heap.size, 0, none⟩) 2 2] 38)).frozen? ⟨W1.heap.size, i, none⟩ = false := fun i => by simp
  rw [e1] at Z1 f2
  exact ⟨Z1, L1.below b2, f2, fun i => (b2.frozen (p := ⟨X.heap.size, i, none⟩) (by show X.heap.size < W1.heap.size; omega)).trans (f1 i), by decide, by omega, by omega, Nat.le_refl _, bt b1 b2⟩
theorem example_bel {Y X : World} (hX : Below Y.heap.size Y X) :
    Calls Tryz.prog 12 #[] X fun e w' => ∃ bl, e = .returned (.agg #[.int .i64 10, .slice (some ⟨bl, 0, none⟩) 2 2, .int .i64 42000]) ∧ LpAt w' exF 2 bl 0 ∧ Below X.heap.size X w' ∧ Below Y.heap.size Y w' :=
  (example_own X).mono fun _ _ ⟨bl, he, hl, _, _, hb⟩ => ⟨bl, he, hl, hb, bt hX hb⟩
theorem bel_of {Y X : World} (hX : Below Y.heap.size Y X) {f : Nat} {args : Array Value} {v : Value} (h : Calls Tryz.prog f args X fun e w' => e = .returned v ∧ Below X.heap.size X w') :
    Calls Tryz.prog f args X fun e w' => e = .returned v ∧ Below Y.heap.size Y w' :=
  h.mono fun _ _ q => ⟨q.1, bt hX q.2⟩
end Go.Proofs.YtgnfaemnehmgcaaGreatDoor.Cal
