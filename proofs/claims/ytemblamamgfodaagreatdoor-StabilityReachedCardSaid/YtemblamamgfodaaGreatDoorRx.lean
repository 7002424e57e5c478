/- The law StabilityReached. -/
import Derived.Test.YtemblamamgfodaaGreatDoorTrack
import Derived.Test.YtemblamamgfodaaGreatDoorReachPl
import Derived.Test.YtemblamamgfodaaGreatDoorRy
import Derived.Test.YtemblamamgfodaaGreatDoorAw
import Derived.Test.YtemblamamgfodaaGreatDoorSb
import Derived.Deep.AppendLies
import Derived.Deep.CutRange
namespace Go.Proofs.YtemblamamgfodaaGreatDoor
open Go Go.RowKit Go.Shelf
def RPair (g : Wd.PairErr) (X : World) (e : Ending) (Y : World) : Prop := ∃ a b c : Int, e = .returned (.tuple #[.agg #[.int .i64 a, .int .i64 b], .int .i64 c]) ∧ Hid (g = ⟨a, b, c⟩) ∧ Below X.heap.size X Y
theorem reach_pair (W : Wd.Wld) (k s : Int) (p1 p2 : Option Addr) (k1 k2 : Nat) (X : World) (ht : Wd.Tabs X) (hW : Wd.WldIn X W p1 p2) :
    Calls Tryz.prog 16 #[.agg #[.int .u64 W.seed, .slice p1 W.chs.length k1, .slice p2 W.cls.length k2], .int .i64 k, .int .i64 s] X (RPair (Wd.reachE W k s) X) :=
  (Wd.reach_any W k s p1 p2 k1 k2 X ht hW).mono fun _ _ ⟨h1, h2⟩ => ⟨_, _, _, h1, Lib.hid rfl, h2⟩
/-- the argument's box -/
structure WBox (X : World) (b : Nat) (W : Wd.Wld) (p1 p2 : Option Addr) (c1 c2 : Nat) : Prop where
  c0 : X.cell? ⟨b, 0, none⟩ = some (.int .u64 W.seed)
  c1 : X.cell? ⟨b, 1, none⟩ = some (.slice p1 W.chs.length c1)
  c2 : X.cell? ⟨b, 2, none⟩ = some (.slice p2 W.cls.length c2)
theorem WBox.below {X Y : World} {b : Nat} {W : Wd.Wld} {p1 p2 : Option Addr} {c1 c2 : Nat} (h : WBox X b W p1 p2 c1 c2) (hb : Below X.heap.size X Y) : WBox Y b W p1 p2 c1 c2 := ⟨cell_below hb h.c0, cell_below hb h.c1, cell_below hb h.c2⟩
theorem SBox.drew' {w X : World} {bx : Nat} {tau : Int} {v : Value} {l : List Int} (h : SBox w X bx tau v l) : SBox w X.drew bx tau v l := ⟨h.own, h.c0, h.c1, h.f1, h.ne, h.ge, Below.drew h.bel⟩
theorem max3_run {P : Program} {W : World} (ts : Array TypeId) (t : TypeId) (k k' k'' : IntKind) (x y z : Int) : (Builtin.max_ ts t #[.int k x, .int k' y, .int k'' z]).run P W = .ok (.int k (max (max x y) z)) W := by
  have e : max (max x y) z = if z > (if y > x then y else x) then z else (if y > x then y else x) := by
    by_cases h1 : y > x
    · rw [if_pos h1]
      by_cases h2 : z > y
      · rw [if_pos h2]; omega
      · rw [if_neg h2]; omega
    · rw [if_neg h1]
      by_cases h2 : z > x
      · rw [if_pos h2]; omega
      · rw [if_neg h2]; omega
  rw [e]
  simp [Builtin.max_, Builtin.max2]
attribute [local go_sem] max3_run
theorem mul_40 {ev : Int} {i : Nat} (h : 1 ≤ ev ∧ ev ≤ 90) (hi : i ≤ 40) : 0 ≤ ev * i ∧ ev * i ≤ 3600 := ⟨Int.mul_nonneg (by omega) (by omega), by have := Int.mul_le_mul h.2 (show (i : Int) ≤ 40 by omega) (by omega) (by decide); omega⟩
/-- two numbers of a box -/
def VB (X : World) (b : Nat) (x y : Int) : Prop := X.cell? ⟨b, 0, none⟩ = some (.int .i64 x) ∧ X.cell? ⟨b, 1, none⟩ = some (.int .i64 y)
theorem VB.below {X Y : World} {b : Nat} {x y : Int} (h : VB X b x y) (hb : Below X.heap.size X Y) : VB Y b x y := ⟨cell_below hb h.1, cell_below hb h.2⟩
theorem vb_new (X : World) (x y : Int) (t : TypeId) : VB (X.alloc (.cells #[.int .i64 x, .int .i64 y] t)) X.heap.size x y := ⟨by simp, by simp⟩
/-- two cells of a box that may be written -/
structure Free2 (X : World) (b : Nat) : Prop where
  c : ∃ u v, X.cell? ⟨b, 0, none⟩ = some u ∧ X.cell? ⟨b, 1, none⟩ = some v
  f0 : X.frozen? ⟨b, 0, none⟩ = false
  f1 : X.frozen? ⟨b, 1, none⟩ = false
theorem Free2.below {X Y : World} {b : Nat} (h : Free2 X b) (hb : Below X.heap.size X Y) : Free2 Y b := by
  obtain ⟨⟨u, v, h0, h1⟩, f0, f1⟩ := h
  exact ⟨⟨u, v, cell_below hb h0, cell_below hb h1⟩, (hb.frozen (p := ⟨b, 0, none⟩) (cell_lt h0)).trans f0, (hb.frozen (p := ⟨b, 1, none⟩) (cell_lt h0)).trans f1⟩
/-- what the second half of the law needs of the first -/
structure Late (w X : World) (W : Wd.Wld) (p1 p2 : Option Addr) (c1 c2 bs bv : Nat) : Prop where
  bel : Below w.heap.size w X
  wb : WBox X w.heap.size W p1 p2 c1 c2
  s : Free2 X bs
  v : Free2 X bv
  lt : bs < bv
  ge : w.heap.size ≤ bs
theorem Late.below {w X Y : World} {W : Wd.Wld} {p1 p2 : Option Addr} {c1 c2 bs bv : Nat} (h : Late w X W p1 p2 c1 c2 bs bv) (hb : Below X.heap.size X Y) : Late w Y W p1 p2 c1 c2 bs bv :=
  ⟨h.bel.trans (hb.mono h.bel.size), h.wb.below hb, h.s.below hb, h.v.below hb, h.lt, h.ge⟩
theorem Free2.far {X : World} {b b' o : Nat} {u : Value} (h : Free2 X b) (hne : b' ≠ b) : Free2 (X.setCell ⟨b', o, none⟩ u) b := by
  obtain ⟨⟨x, y, h0, h1⟩, f0, f1⟩ := h
  exact ⟨⟨x, y, by rw [World.cell?_setCell_far _ _ _ _ hne]; exact h0, by rw [World.cell?_setCell_far _ _ _ _ hne]; exact h1⟩, by rw [World.frozen?_setCell]; exact f0, by rw [World.frozen?_setCell]; exact f1⟩
theorem Free2.grown {X Y : World} {b : Nat} {o : Obj} {row : Option Nat} (h : Free2 X b) (hg : (X.alloc o).grownBy Y row) (hne : row ≠ some b) : Free2 Y b := by
  obtain ⟨⟨x, y, h0, h1⟩, f0, f1⟩ := h
  exact ⟨⟨x, y, grown_cell hg hne h0, grown_cell hg hne h1⟩, (grown_frozen (cell_lt h0) hg hne).trans f0, (grown_frozen (cell_lt h0) hg hne).trans f1⟩
theorem Free2.lt {X : World} {b : Nat} (h : Free2 X b) : b < X.heap.size := by
  obtain ⟨⟨x, y, h0, h1⟩, f0, f1⟩ := h
  exact cell_lt h0
/-- a series that is set anew -/
theorem SBox.reset {w X : World} {bx : Nat} (hbel : Below w.heap.size w X) (hge : w.heap.size ≤ bx) (h : Free2 X bx) (tau : Int) : SBox w ((X.setCell ⟨bx, 0, none⟩ (.int .i64 tau)).setCell ⟨bx, 1, none⟩ (.slice none 0 0)) bx tau (.slice none 0 0) [] := by
  obtain ⟨⟨x, y, h0, h1⟩, f0, f1⟩ := h
  have g1 : (X.setCell ⟨bx, 0, none⟩ (.int .i64 tau)).cell? ⟨bx, 1, none⟩ = some y := by rw [World.cell?_setCell_other X ⟨bx, 0, none⟩ ⟨bx, 1, none⟩ _ (fun e => by cases e)]; exact h1
  refine ⟨World.ownsRow_nil _ _ _ _, ?_, World.cell?_setCell_same _ _ _ g1, by rw [World.frozen?_setCell, World.frozen?_setCell]; exact f1, by simp [Value.ownBlock], hge, (hbel.setCell (p := ⟨bx, 0, none⟩) hge _).setCell (p := ⟨bx, 1, none⟩) hge _⟩
  rw [World.cell?_setCell_other _ ⟨bx, 1, none⟩ ⟨bx, 0, none⟩ _ (fun e => by cases e)]
  exact World.cell?_setCell_same _ _ _ h0
/-- about the second loop -/
structure Late2 (w X : World) (bs bv : Nat) (tp : Option Addr) (L : List Int) (v : Value) (l : List Int) : Prop where
  sb : SBox w X bs 100 v l
  fv : Free2 X bv
  ser : SerIn X L tp
  nev : v.ownBlock ≠ some bv
  nes : ∀ k o, tp = some ⟨k, o, none⟩ → v.ownBlock ≠ some k ∧ k ≠ bs ∧ k < X.heap.size
  lt : bs < bv
theorem Late2.drew {w X : World} {bs bv : Nat} {tp : Option Addr} {L l : List Int} {v : Value} (h : Late2 w X bs bv tp L v l) : Late2 w X.drew bs bv tp L v l := ⟨h.sb.drew', ⟨h.fv.c, h.fv.f0, h.fv.f1⟩, h.ser, h.nev, h.nes, h.lt⟩
theorem Late2.step {w X Y : World} {bs bv : Nat} {tp : Option Addr} {L l : List Int} {v v' : Value} {x : Int} {o : Obj} (h : Late2 w X bs bv tp L v l) (hown : Y.ownsRow w.heap.size 3 1 v' (l.length + 1) (ints l ++ [.int .i64 x])) (hg : (X.alloc o).grownBy Y v.ownBlock)
    (hb : v'.ownBlock = v.ownBlock ∨ v'.ownBlock = some (X.alloc o).heap.size) : Late2 w (Y.setCell ⟨bs, 1, none⟩ v') bs bv tp L v' (l ++ [x]) := by
  have hbv := h.fv.lt
  have hlt := h.lt
  have hsz := hg.size
  have new : ∀ {k : Nat}, k < X.heap.size → v.ownBlock ≠ some k → v'.ownBlock ≠ some k := fun {k} hk hn => by
    rcases hb with hb | hb
    · rw [hb]; exact hn
    · rw [hb]; intro e; cases e; rw [World.size_alloc] at hk; omega
  refine ⟨(h.sb.grow hown hg hb).store, (h.fv.grown hg h.nev).far (by omega), ?_, new hbv h.nev, fun k o' e => ?_, hlt⟩
  · refine ⟨h.ser.1, ?_⟩
    rcases h.ser.2 with h0 | ⟨k, o', e, hi⟩
    · exact .inl h0
    · obtain ⟨n1, n2, n3⟩ := h.nes k o' e
      exact .inr ⟨k, o', e, fun i hi' => by rw [World.cell?_setCell_far _ _ _ _ (fun q => n2 q.symm)]; exact grown_cell hg n1 (hi i hi')⟩
  · obtain ⟨n1, n2, n3⟩ := h.nes k o' e
    exact ⟨new n3 n1, n2, by simp at hsz; simp; omega⟩
theorem SerIn.other {X : World} {l : List Int} {p : Option Addr} {b o : Nat} {u : Value} (h : SerIn X l p) (hne : ∀ k o, p = some ⟨k, o, none⟩ → b ≠ k) : SerIn (X.setCell ⟨b, o, none⟩ u) l p := by
  refine ⟨h.1, ?_⟩
  rcases h.2 with h0 | ⟨k, o', e, hi⟩
  · exact .inl h0
  · exact .inr ⟨k, o', e, fun i hi' => by rw [World.cell?_setCell_far _ _ _ _ (hne k o' e)]; exact hi i hi'⟩
/-- what a law of a world's clock asks of its index -/
theorem pick_bd (k : Int) {n : Nat} (h : 1 ≤ n) : 0 ≤ k % n ∧ k % n < n := ⟨Int.emod_nonneg _ (by omega), Int.emod_lt_of_pos _ (by omega)⟩
set_option maxRecDepth 100000 in
set_option maxHeartbeats 4000000 in
theorem reached_no (W : Wd.Wld) (k fr st co m ra : Int) (p1 p2 : Option Addr) (c1 c2 : Nat) (w : World) (ht : Wd.Tabs w) (hW : Wd.WldIn w W p1 p2) (hno : Wd.checkS W ≠ 0 ∨ W.cls.length < 1 ∨ 16 < W.cls.length) :
    Calls Tryz.prog 4 #[.agg #[.int .u64 W.seed, .slice p1 W.chs.length c1, .slice p2 W.cls.length c2], .int .i64 k, .int .u16 fr, .int .u8 st, .int .u8 co, .int .u8 m, .int .i16 ra] w fun e w' => e = .returned (.bool true) ∧ Below w.heap.size w w' := by
  have a0 := below_alloc (Below.refl w.heap.size w) (.cells #[.int .u64 W.seed, .slice p1 W.chs.length c1, .slice p2 W.cls.length c2] 35)
  have HCK := Lib.hid (Wd.check_any W p1 p2 c1 c2 _ (ht.below a0) (hW.below a0))
  have HX : Hid (WBox (w.alloc (.cells #[.int .u64 W.seed, .slice p1 W.chs.length c1, .slice p2 W.cls.length c2] 35)) w.heap.size W p1 p2 c1 c2) := Lib.hid ⟨by simp, by simp, by simp⟩
  have A0 := Lib.hid a0
  unfold Wd.wldVal at HCK
  generalize Wd.checkS W = ce at *
  have hno2 : (ce = 0 ∧ (W.cls.length : Int) < 1) ∨ (ce = 0 ∧ ¬ ((W.cls.length : Int) < 1) ∧ 16 < (W.cls.length : Int)) ∨ ce ≠ 0 := by omega
  clear ht hW a0 hno
  go_enter Tryz.func4, Tryz.ntmps4
  go_wp2_with fail
  refine HCK.out.mono ?_
  rintro e w1 ⟨rfl, hb1⟩
  have A1 := Lib.hid (A0.out.trans (hb1.mono A0.out.size))
  obtain ⟨x0, x1, x2⟩ := HX.out.below hb1
  have hz := cell_lt x0
  clear hb1 HCK
  rcases hno2 with ⟨h1, h2⟩ | ⟨h1, h2, h3⟩ | h1
  · subst h1
    go_wp2_with fail
    refine (awake_any _).mono ?_
    rintro e w2 ⟨rfl, hb2⟩
    have A2 := Lib.hid (A1.out.trans (hb2.mono A1.out.size))
    go_wp2
    go_ret
    exact ⟨rfl, A2.out⟩
  · subst h1
    go_wp2_with fail
    refine (awake_any _).mono ?_
    rintro e w2 ⟨rfl, hb2⟩
    have A2 := Lib.hid (A1.out.trans (hb2.mono A1.out.size))
    go_wp2
    go_ret
    exact ⟨rfl, A2.out⟩
  · have hne : (ce != 0) = true := by simpa using h1
    go_wp2_with fail
    refine (awake_any _).mono ?_
    rintro e w2 ⟨rfl, hb2⟩
    have A2 := Lib.hid (A1.out.trans (hb2.mono A1.out.size))
    go_wp2
    go_ret
    exact ⟨rfl, A2.out⟩
set_option maxRecDepth 100000 in
set_option maxHeartbeats 8000000 in
theorem reached_main (W : Wd.Wld) (k fr st co m ra : Int) (p1 p2 : Option Addr) (c1 c2 : Nat) (w : World) (ht : Wd.Tabs w) (hW : Wd.WldIn w W p1 p2) (hc : Wd.checkS W = 0) (hl1 : 1 ≤ W.cls.length) (hl16 : W.cls.length ≤ 16)
    (bfr : 0 ≤ fr ∧ fr ≤ 65535) (bst : 0 ≤ st ∧ st ≤ 255) (bco : 0 ≤ co ∧ co ≤ 255) (bm : 0 ≤ m ∧ m ≤ 255) (bra : -32768 ≤ ra ∧ ra ≤ 32767) :
    Calls Tryz.prog 4 #[.agg #[.int .u64 W.seed, .slice p1 W.chs.length c1, .slice p2 W.cls.length c2], .int .i64 k, .int .u16 fr, .int .u8 st, .int .u8 co, .int .u8 m, .int .i16 ra] w fun e w' => e = .returned (.bool true) ∧ Below w.heap.size w w' := by
  obtain ⟨i0, hi0, hz0, hz1, hz2⟩ := info_parts infoInt
  have a0 := below_alloc (Below.refl w.heap.size w) (.cells #[.int .u64 W.seed, .slice p1 W.chs.length c1, .slice p2 W.cls.length c2] 35)
  have HCK := Lib.hid (Wd.check_any W p1 p2 c1 c2 _ (ht.below a0) (hW.below a0))
  have HX : Hid (WBox (w.alloc (.cells #[.int .u64 W.seed, .slice p1 W.chs.length c1, .slice p2 W.cls.length c2] 35)) w.heap.size W p1 p2 c1 c2) := Lib.hid ⟨by simp, by simp, by simp⟩
  have A0 := Lib.hid a0
  have HT := Lib.hid ht
  have HW := Lib.hid hW
  unfold Wd.wldVal at HCK
  rw [hc] at HCK
  have HC := Lib.hid hc
  have hlen1 : ¬ ((W.cls.length : Int) < 1) := by omega
  have hlen2 : ¬ (16 < (W.cls.length : Int)) := by omega
  have HL := Lib.hid (And.intro hl1 hl16)
  obtain ⟨ev, hev⟩ : ∃ ev : Int, ev = 1 + st % 90 := ⟨_, rfl⟩
  obtain ⟨n, hn⟩ : ∃ n : Nat, (n : Int) = 3 + co % 38 := ⟨(3 + co % 38).toNat, by omega⟩
  obtain ⟨b, hb⟩ : ∃ b : Nat, (b : Int) = 1 + m % 4 := ⟨(1 + m % 4).toNat, by omega⟩
  have hev2 : 1 ≤ ev ∧ ev ≤ 90 := by omega
  have hn2 : 3 ≤ n ∧ n ≤ 40 := by omega
  have hb2 : 1 ≤ b ∧ b ≤ 4 := by omega
  have u1 : IntKind.i64.wrap st = st := IntWalk.i64_in _ (by omega)
  have u2 : IntKind.i64.wrap co = co := IntWalk.i64_in _ (by omega)
  have u3 : IntKind.i64.wrap m = m := IntWalk.i64_in _ (by omega)
  have u4 : IntKind.i64.wrap fr = fr := IntWalk.i64_in _ (by omega)
  have u5 : IntKind.i64.wrap ra = ra := IntWalk.i64_in _ (by omega)
  have v1 : IntKind.i64.wrap (st.tmod 90) = st.tmod 90 := IntWalk.i64_in _ (by rw [Int.tmod_eq_emod_of_nonneg bst.1]; omega)
  have v2 : IntKind.i64.wrap (co.tmod 38) = co.tmod 38 := IntWalk.i64_in _ (by rw [Int.tmod_eq_emod_of_nonneg bco.1]; omega)
  have v3 : IntKind.i64.wrap (m.tmod 4) = m.tmod 4 := IntWalk.i64_in _ (by rw [Int.tmod_eq_emod_of_nonneg bm.1]; omega)
  have v4 : IntKind.i64.wrap (1 + st.tmod 90) = ev := by rw [Int.tmod_eq_emod_of_nonneg bst.1, IntWalk.i64_in _ (by omega)]; omega
  have v5 : IntKind.i64.wrap (3 + co.tmod 38) = (n : Int) := by rw [Int.tmod_eq_emod_of_nonneg bco.1, IntWalk.i64_in _ (by omega)]; omega
  have v6 : IntKind.i64.wrap (1 + m.tmod 4) = (b : Int) := by rw [Int.tmod_eq_emod_of_nonneg bm.1, IntWalk.i64_in _ (by omega)]; omega
  have v4' : IntKind.i64.wrap (1 + st % 90) = ev := by rw [IntWalk.i64_in _ (by omega)]; omega
  have v5' : IntKind.i64.wrap (3 + co % 38) = (n : Int) := by rw [IntWalk.i64_in _ (by omega)]; omega
  have v6' : IntKind.i64.wrap (1 + m % 4) = (b : Int) := by rw [IntWalk.i64_in _ (by omega)]; omega
  obtain ⟨ck, hck⟩ : ∃ ck, wrap64 ((IntKind.u64.wrap k).tmod (W.cls.length : Int)) = ck := ⟨_, rfl⟩
  have hck2 : 0 ≤ ck ∧ ck < W.cls.length := by
    have h1 : 0 ≤ IntKind.u64.wrap k := by rw [IntKind.wrap_u64]; omega
    have h2 := pick_bd (IntKind.u64.wrap k) hl1
    rw [Int.tmod_eq_emod_of_nonneg h1] at hck
    unfold wrap64 at hck
    omega
  have HTT := Lib.hid (track_two hc hck2 bfr hev2 hn2)
  have HB2 := Lib.hid hb2
  have HN2 := Lib.hid hn2
  have HEV := Lib.hid hev2
  have HFR := Lib.hid bfr
  have HRA := Lib.hid bra
  clear ht hW a0 hc hl1 hl16 hev hn hb hck2
  go_enter Tryz.func4, Tryz.ntmps4
  go_wp2_with fail
  refine HCK.out.mono ?_
  rintro e w1 ⟨rfl, hb1⟩
  have A1 := Lib.hid (A0.out.trans (hb1.mono A0.out.size))
  have HX1 := Lib.hid (HX.out.below hb1)
  obtain ⟨x0, x1, x2⟩ := HX.out.below hb1
  have hz := cell_lt x0
  clear hb1 HCK HX
  go_wp2_with fail
  refine (Wd.Track_any W ck fr ev n p1 p2 c1 c2 _ (HT.out.below A1.out) (HW.out.below A1.out) (by have := HEV.out; omega)).mono ?_
  rintro e w2 ⟨tv, rfl, ⟨hrow, -⟩, hb2'⟩
  have A2 := Lib.hid (A1.out.trans (hb2'.mono A1.out.size))
  have HX2 := Lib.hid (HX1.out.below hb2')
  clear x0 x1 x2 hz hb2' HX1 v1 v2 v3 v4 v5 v6 v4' v5' v6' u1 u2 u3
  rcases HTT.out with ⟨L, hL⟩ | ⟨L, hL, hln, hreach⟩
  · rw [hL] at hrow ⊢
    clear hrow hL HTT
    go_wp2_with fail
    refine (awake_any _).mono ?_
    rintro e w3 ⟨rfl, hb3⟩
    have A3 := Lib.hid (A2.out.trans (hb3.mono A2.out.size))
    clear hb3
    go_wp2
    go_ret
    exact ⟨rfl, A3.out⟩
  · rw [hL] at hrow ⊢
    obtain ⟨tp, tc, rfl, hm, hs⟩ := hrow
    dsimp only at hs hm
    have HS := Lib.hid (show SerIn w2 L tp from ⟨hm, hs⟩)
    have HRE := Lib.hid hreach
    have HLN := Lib.hid hln
    have HSB := Lib.hid (SBox.start w2 ev 56)
    rw [hln]
    clear hL HTT hm hs hreach hln
    go_upto_region 9 with fail
    have A3 := Lib.hid (A2.out.trans ((below_alloc (Below.refl w2.heap.size w2) (.cells #[.int .i64 ev, .slice none 0 0] 56)).mono A2.out.size))
    have HF0 : Hid ((w2.alloc (.cells #[.int .i64 ev, .slice none 0 0] 56)).frozen? ⟨w2.heap.size, 0, none⟩ = false) := Lib.hid (by simp)
    generalize hW3 : w2.alloc (.cells #[.int .i64 ev, .slice none 0 0] 56) = W3 at *
    clear hW3
    go_wp2_with fail
    go_loopw [23, 95] (fun s i wr => ∃ (q : Nat) (x v : Value), q ≤ n ∧ s = x ∧ i = .int .i64 (q : Int) ∧ Hid (SBox w2 wr w2.heap.size ev v (subL L q)) ∧ Hid (wr.frozen? ⟨w2.heap.size, 0, none⟩ = false)) (fun _ i _ => n - (intOf i).toNat)
    case atStart => exact ⟨0, _, _, Nat.zero_le _, rfl, rfl, HSB, HF0⟩
    case round =>
      obtain ⟨q, xv, v, hq, rfl, rfl, HSQ, HFQ⟩ := hrel
      by_cases hlt : q < n
      · have hqi : (q : Int) < n := by omega
        have HQ := Lib.hid hlt
        have hlq : (subL L q).length = q := subL_len L q
        obtain ⟨lb, lo, rfl, hli⟩ := ((HS.out.below HSQ.out.bel).2).resolve_left (by rw [HLN.out]; omega)
        have x0 := hli 0 (by rw [HLN.out]; omega)
        have xq := hli q (by rw [HLN.out]; omega)
        rw [Nat.add_zero] at x0
        have b0 := HRE.out 0 (by omega)
        have bq := HRE.out q hlt
        have c1 := HSQ.out.c1
        have f1 := HSQ.out.f1
        have hz := cell_lt c1
        have hzl := cell_lt x0
        have HL1 := Lib.hid (subL_succ L q)
        rw [atL_get] at x0 xq
        have w1x : IntKind.i64.wrap (atL L q - atL L 0) = atL L q - atL L 0 := IntWalk.i64_in _ (by omega)
        generalize atL L q = yq at *
        generalize atL L 0 = y0 at *
        have HB1 := Lib.hid w1x
        have hn0 : 0 < n := by omega
        clear b0 bq hli hlt
        go_upto_region 12 with fail
        have HSD := Lib.hid HSQ.out.drew'
        go_region_law (refine step_append_lies _ rfl (.tmp 100) (.tmp 106) _ rfl w2.heap.size 3 i0 (.int .i64 0) 1 8 Tryz.underlying38 hi0 hz0 hz1 hz2 rfl (by decide) _ _ _ rfl (HSD.out.own.alloc _) ⟨_, 0, none⟩ 1 1 [.int .i64 (yq - y0)] rfl rfl (cell_one_new _ _ _) (by simp [Value.oneCell']) (by decide) (by rw [hlq]; unfold maxLen; omega) (by rw [hlq]; omega) (by have := HSD.out.bel.size; simp at this; simp; omega) _ rfl ?_; intro gn cn z1 hown hg hb _; have HG := Lib.hid (HSD.out.grow hown hg (hb.imp (fun h => h.symm) (fun h => congrArg some h))); obtain ⟨u, d1⟩ := HG.out.c1; have d2 := HG.out.f1; have hz' := cell_lt d1; have d0 := Lib.hid ((grown_frozen (k := 0) (cell_lt HSD.out.c0) hg HSD.out.ne).trans HFQ.out); clear hown hg hb c1 f1)
        all_goals
          have HS2 := HG.out.store
          rw [← HL1.out, hlq] at HS2
          go_wp2_with fail
          go_roundw
          case rel => exact ⟨q + 1, _, _, HQ.out, rfl, by simp, Lib.hid HS2, Lib.hid (by rw [World.frozen?_setCell]; exact d0.out)⟩
          case measure => have := HQ.out; simp [intOf]; omega
      · obtain rfl : q = n := by omega
        obtain ⟨sp, sc, rfl, hss, hsb⟩ := OwnI.ser HSQ.out.own
        have HSS := Lib.hid hss
        have HSBL := Lib.hid hsb
        have sc0 := HSQ.out.c0
        have sc1 := HSQ.out.c1
        rw [subL_len] at sc1
        have hz := cell_lt sc0
        have HOC := Lib.hid (over_cases (tau := ev) (l := subL L q) (m := b) (by have := HB2.out; omega) (by rw [subL_len]; have := HN2.out; omega))
        have HOV := Lib.hid (overlapping_any ev (subL L q) sp sc b wr ⟨by rw [subL_len]; have := HN2.out; unfold maxLen; omega, hss⟩)
        rw [subL_len] at HOV
        clear hss hsb
        go_wp2_with fail
        refine HOV.out.mono ?_
        rintro e w4 ⟨rfl, hb4⟩
        obtain ⟨⟨vn, vd, ve⟩, hV⟩ : ∃ V, V = overlappingE ev (subL L q) b := ⟨_, rfl⟩
        rw [← hV] at HOC ⊢
        unfold varVal
        dsimp only
        have HS4 := Lib.hid (HS.out.below (HSQ.out.bel.trans (hb4.mono HSQ.out.bel.size)))
        have A4 := Lib.hid (A2.out.trans ((HSQ.out.bel.trans (hb4.mono HSQ.out.bel.size)).mono A2.out.size))
        have HX4 := Lib.hid (HX2.out.below (HSQ.out.bel.trans (hb4.mono HSQ.out.bel.size)))
        have hL4 := (HSQ.out.bel.trans (hb4.mono HSQ.out.bel.size))
        have hS4 : Free2 w4 w2.heap.size := Free2.below ⟨⟨_, _, HSQ.out.c0, HSQ.out.c1⟩, HFQ.out, HSQ.out.f1⟩ hb4
        have b5 := below_alloc (Below.refl w4.heap.size w4) (.cells #[.int .i64 vn, .int .i64 vd] 58)
        have HLA : Hid (Late w (w4.alloc (.cells #[.int .i64 vn, .int .i64 vd] 58)) W p1 p2 c1 c2 w2.heap.size w4.heap.size) := Lib.hid ⟨A4.out.trans (b5.mono A4.out.size), HX4.out.below b5, hS4.below b5, ⟨⟨_, _, by simp; exact ⟨rfl, rfl⟩⟩, by simp, by simp⟩, by have := cell_lt HSQ.out.c0; have := hb4.size; omega, A2.out.size⟩
        have HVB : Hid (VB (w4.alloc (.cells #[.int .i64 vn, .int .i64 vd] 58)) w4.heap.size vn vd) := Lib.hid (vb_new _ _ _ _)
        clear HOV hV hb4 hL4 hS4 b5 A4 HX4 sc0 sc1 hz
        go_upto_region 15 with fail
        generalize hW5 : w4.alloc (.cells #[.int .i64 vn, .int .i64 vd] 58) = W5 at *
        clear hW5
        obtain ⟨bv, hbv⟩ : ∃ bv, bv = w4.heap.size := ⟨_, rfl⟩
        rw [← hbv] at HLA HVB ⊢
        clear hbv
        go_upto_if 117 with fail
        go_cut [25, 26, 27, 28, 29, 30, 31, 32] from 116 to 229 (fun s25 s26 s27 s28 s29 s30 s31 s32 wx => Hid (Late w wx W p1 p2 c1 c2 w2.heap.size bv))
        case first =>
          rcases HOC.out with h | h | ⟨x, y, h, hx0, hy1, hxy, hmost⟩
          · cases h
            clear HOC
            go_wp2
            go_meet
            exact HLA
          · cases h
            clear HOC
            go_wp2
            go_meet
            exact HLA
          · cases h
            have HMO := Lib.hid hmost
            have HXY := Lib.hid (And.intro hx0 (And.intro hy1 hxy))
            clear HOC hmost hx0 hy1 hxy
            go_wp2_with fail
            go_loopw [14, 25, 26, 27, 28, 29, 30, 31, 32] (fun s14 s25 s26 s27 s28 s29 s30 s31 s32 wx => ∃ (i : Nat) (M : Int) (v14 v27 v28 v29 v30 v31 v32 : Value), i + 2 * b ≤ q + 2 * b ∧ s14 = v14 ∧ s25 = .int .i64 M ∧ s26 = .int .i64 (i : Int) ∧ s27 = v27 ∧ s28 = v28 ∧ s29 = v29 ∧ s30 = v30 ∧ s31 = v31 ∧ s32 = v32 ∧ Hid (0 ≤ M ∧ M ≤ 1600000000000000) ∧ Hid (∀ j, j < i → -M ≤ secAt (subL L q) b j ∧ secAt (subL L q) b j ≤ M) ∧ Hid (Late w wx W p1 p2 c1 c2 w2.heap.size bv) ∧ Hid (VB wx bv vn vd)) (fun _ _ s26 _ _ _ _ _ _ _ => q - (intOf s26).toNat)
            case atStart => exact ⟨0, 0, _, _, _, _, _, _, _, by omega, rfl, rfl, rfl, rfl, rfl, rfl, rfl, rfl, rfl, Lib.hid (by omega), Lib.hid (fun j hj => absurd hj (Nat.not_lt_zero j)), HLA, HVB⟩
            case round =>
              obtain ⟨i, M, v14, v27, v28, v29, v30, v31, v32, hi, rfl, rfl, rfl, rfl, rfl, rfl, rfl, rfl, rfl, HM, HSE, HL5, HV5⟩ := hrel
              have w2b : IntKind.i64.wrap (2 * (b : Int)) = 2 * (b : Int) := IntWalk.i64_in _ (by omega)
              obtain ⟨i2, hi2⟩ : ∃ i2, i2 = i + 2 * b := ⟨_, rfl⟩
              have w2i : IntKind.i64.wrap ((i : Int) + 2 * (b : Int)) = (i2 : Int) := by rw [IntWalk.i64_in _ (by omega)]; omega
              by_cases hlt : i2 < q
              · have h2i : (i2 : Int) < (q : Int) := by omega
                obtain ⟨i1, hi1⟩ : ∃ i1, i1 = i + b := ⟨_, rfl⟩
                have w1i : IntKind.i64.wrap ((i : Int) + (b : Int)) = (i1 : Int) := by rw [IntWalk.i64_in _ (by omega)]; omega
                have w3i : IntKind.i64.wrap ((i : Int) + 1) = (i : Int) + 1 := IntWalk.i64_in _ (by omega)
                have m0 := mul_40 (i := i) hev2 (by omega)
                have m1 := mul_40 (i := i1) hev2 (by omega)
                have m2 := mul_40 (i := i2) hev2 (by omega)
                have R0 := Lib.hid (HRE.out i (by omega))
                have R1 := Lib.hid (HRE.out i1 (by omega))
                have R2 := Lib.hid (HRE.out i2 (by omega))
                have HSC := Lib.hid (subL_sec L q b i (by omega))
                rw [← hi2, ← hi1] at HSC
                obtain ⟨t0, ht0⟩ : ∃ t0, ev * (i : Int) = t0 := ⟨_, rfl⟩
                obtain ⟨t1, ht1⟩ : ∃ t1, ev * (i1 : Int) = t1 := ⟨_, rfl⟩
                obtain ⟨t2, ht2⟩ : ∃ t2, ev * (i2 : Int) = t2 := ⟨_, rfl⟩
                rw [ht0] at R0 m0
                rw [ht1] at R1 m1
                rw [ht2] at R2 m2
                have k0 : IntKind.i64.wrap t0 = t0 := IntWalk.i64_in _ (by omega)
                have k1 : IntKind.i64.wrap t1 = t1 := IntWalk.i64_in _ (by omega)
                have k2 : IntKind.i64.wrap t2 = t2 := IntWalk.i64_in _ (by omega)
                have l0 : IntKind.i64.wrap (fr + t0) = fr + t0 := IntWalk.i64_in _ (by have := HFR.out; omega)
                have l1 : IntKind.i64.wrap (fr + t1) = fr + t1 := IntWalk.i64_in _ (by have := HFR.out; omega)
                have l2 : IntKind.i64.wrap (fr + t2) = fr + t2 := IntWalk.i64_in _ (by have := HFR.out; omega)
                obtain ⟨x0, x1, x2⟩ := HL5.out.wb
                have hz := cell_lt x0
                have HI2 := Lib.hid hi2
                have HLT := Lib.hid hlt
                clear hi2 hi1 m0 m1 m2 hlt
                go_wp2_with fail
                refine (reach_pair W ck (fr + t0) p1 p2 c1 c2 _ (HT.out.below HL5.out.bel) (HW.out.below HL5.out.bel)).mono ?_
                rintro e wA ⟨al, ah, ae, rfl, HA, hbA⟩
                rw [HA.out] at R0
                obtain ⟨rfl, ra1, ra2, ra3, ra4⟩ := id R0.out
                dsimp only at ra1 ra2 ra3 ra4
                have HLA2 := Lib.hid (HL5.out.below hbA)
                have HV6 := Lib.hid (HV5.out.below hbA)
                have B1 := below_alloc (Below.refl wA.heap.size wA) (.cells #[.int .i64 al, .int .i64 ah] 45)
                have HLB := Lib.hid (HLA2.out.below B1)
                have HV7 := Lib.hid (HV6.out.below B1)
                have HVA := Lib.hid (vb_new wA al ah 45)
                clear x0 x1 x2 hz hbA R0 HA HLA2 HV6 B1 HL5 HV5
                go_upto_region 21 with fail
                generalize wA.alloc (.cells #[.int .i64 al, .int .i64 ah] 45) = wB at *
                obtain ⟨x0, x1, x2⟩ := HLB.out.wb
                have hz := cell_lt x0
                go_wp2_with fail
                refine (reach_pair W ck (fr + t1) p1 p2 c1 c2 _ (HT.out.below HLB.out.bel) (HW.out.below HLB.out.bel)).mono ?_
                rintro e wC ⟨bl, bh, be, rfl, HA, hbA⟩
                rw [HA.out] at R1
                obtain ⟨rfl, rb1, rb2, rb3, rb4⟩ := id R1.out
                dsimp only at rb1 rb2 rb3 rb4
                have B1 := below_alloc (Below.refl wC.heap.size wC) (.cells #[.int .i64 bl, .int .i64 bh] 45)
                have HLC := Lib.hid ((HLB.out.below hbA).below B1)
                have HV8 := Lib.hid ((HV7.out.below hbA).below B1)
                have HVA2 := Lib.hid ((HVA.out.below hbA).below B1)
                have HVB2 := Lib.hid (vb_new wC bl bh 45)
                clear x0 x1 x2 hz hbA R1 HA B1 HLB HV7 HVA
                go_upto_region 22 with fail
                generalize wC.alloc (.cells #[.int .i64 bl, .int .i64 bh] 45) = wD at *
                obtain ⟨x0, x1, x2⟩ := HLC.out.wb
                have hz := cell_lt x0
                go_wp2_with fail
                refine (reach_pair W ck (fr + t2) p1 p2 c1 c2 _ (HT.out.below HLC.out.bel) (HW.out.below HLC.out.bel)).mono ?_
                rintro e wE ⟨dl, dh, de, rfl, HA, hbA⟩
                rw [HA.out] at R2
                obtain ⟨rfl, rd1, rd2, rd3, rd4⟩ := id R2.out
                dsimp only at rd1 rd2 rd3 rd4
                have B1 := below_alloc (Below.refl wE.heap.size wE) (.cells #[.int .i64 dl, .int .i64 dh] 45)
                have HLD := Lib.hid ((HLC.out.below hbA).below B1)
                have HV9 := Lib.hid ((HV8.out.below hbA).below B1)
                have HVA3 := Lib.hid ((HVA2.out.below hbA).below B1)
                have HVB3 := Lib.hid ((HVB2.out.below hbA).below B1)
                have HVC3 := Lib.hid (vb_new wE dl dh 45)
                clear x0 x1 x2 hz hbA R2 HA B1 HLC HV8 HVA2 HVB2
                go_upto_region 23 with fail
                generalize wE.alloc (.cells #[.int .i64 dl, .int .i64 dh] 45) = wF at *
                obtain ⟨ya0, ya1⟩ := HVA3.out
                obtain ⟨yb0, yb1⟩ := HVB3.out
                obtain ⟨yc0, yc1⟩ := HVC3.out
                have hya := cell_lt ya0
                have hyb := cell_lt yb0
                have hyc := cell_lt yc0
                have n1 : IntKind.i64.wrap (2 * bl) = 2 * bl := IntWalk.i64_in _ (by omega)
                have n2 : IntKind.i64.wrap (dh - 2 * bl) = dh - 2 * bl := IntWalk.i64_in _ (by omega)
                have n3 : IntKind.i64.wrap (dh - 2 * bl + ah) = dh - 2 * bl + ah := IntWalk.i64_in _ (by omega)
                have n4 : IntKind.i64.wrap (2 * bh) = 2 * bh := IntWalk.i64_in _ (by omega)
                have n5 : IntKind.i64.wrap (2 * bh - dl) = 2 * bh - dl := IntWalk.i64_in _ (by omega)
                have n6 : IntKind.i64.wrap (2 * bh - dl - al) = 2 * bh - dl - al := IntWalk.i64_in _ (by omega)
                obtain ⟨M2, hM2⟩ : ∃ M2, max (max M (dh - 2 * bl + ah)) (2 * bh - dl - al) = M2 := ⟨_, rfl⟩
                have hM3 := HM.out
                have HM2 : Hid (0 ≤ M2 ∧ M2 ≤ 1600000000000000) := Lib.hid (by omega)
                have HSE2 : Hid (∀ j, j < i + 1 → -M2 ≤ secAt (subL L q) b j ∧ secAt (subL L q) b j ≤ M2) := Lib.hid fun j hj => by
                  by_cases e : j = i
                  · rw [e, HSC.out]; omega
                  · have := HSE.out j (by omega); omega
                clear ra1 ra2 ra3 ra4 rb1 rb2 rb3 rb4 rd1 rd2 rd3 rd4 hM3 HSE HM HSC
                go_wp2
                refine ⟨?_, ?measure⟩
                (repeat apply Exists.intro)
                refine ⟨?rel, rfl⟩
                case rel => exact ⟨i + 1, M2, _, _, _, _, _, _, _, by have := HI2.out; have := HLT.out; omega, rfl, rfl, by simp, rfl, rfl, rfl, rfl, rfl, rfl, HM2, HSE2, HLD, HV9⟩
                case measure => have := HI2.out; have := HLT.out; simp [intOf]; omega
              · have h2i : ¬ ((i2 : Int) < (q : Int)) := by omega
                have HSA := Lib.hid (HMO.out M (fun j hj => HSE.out j (by rw [subL_len] at hj; omega)))
                obtain ⟨hx0, hy1, hxy⟩ := HXY.out
                have hM := HM.out
                obtain ⟨y0, y1⟩ := HV5.out
                have hz := cell_lt y0
                have hnl : ¬ (vd < 1) := by omega
                have hdz : (vd == 0) = false := by simp; omega
                have e1 : IntKind.i64.wrap (2 * (b : Int) * b) = 2 * (b : Int) * b := IntWalk.i64_in _ (by
                  have : b = 1 ∨ b = 2 ∨ b = 3 ∨ b = 4 := by omega
                  rcases this with rfl | rfl | rfl | rfl <;> omega)
                have hbb : 2 ≤ 2 * (b : Int) * b ∧ 2 * (b : Int) * b ≤ 32 := by
                  have : b = 1 ∨ b = 2 ∨ b = 3 ∨ b = 4 := by omega
                  rcases this with rfl | rfl | rfl | rfl <;> omega
                have hbe : 2 ≤ 2 * (b : Int) * b * ev ∧ 2 * (b : Int) * b * ev ≤ 2880 := by
                  generalize 2 * (b : Int) * b = z at *
                  exact ⟨by have := Int.mul_le_mul hbb.1 hev2.1 (by omega) (by omega); omega, by have := Int.mul_le_mul hbb.2 hev2.2 (by omega) (by omega); omega⟩
                have hbe2 : 2 ≤ 2 * (b : Int) * b * ev * ev ∧ 2 * (b : Int) * b * ev * ev ≤ 259200 := by
                  generalize 2 * (b : Int) * b * ev = z at *
                  exact ⟨by have := Int.mul_le_mul hbe.1 hev2.1 (by omega) (by omega); omega, by have := Int.mul_le_mul hbe.2 hev2.2 (by omega) (by omega); omega⟩
                have e2 : IntKind.i64.wrap (2 * (b : Int) * b * ev) = 2 * (b : Int) * b * ev := IntWalk.i64_in _ (by omega)
                have e3 : IntKind.i64.wrap (2 * (b : Int) * b * ev * ev) = 2 * (b : Int) * b * ev * ev := IntWalk.i64_in _ (by omega)
                have hez : (2 * (b : Int) * b * ev * ev == 0) = false := by simp; omega
                have hezn : ¬ (2 * (b : Int) * b * ev * ev = 0) := by omega
                have hdzn : ¬ (vd = 0) := by omega
                have e4 : IntKind.i64.wrap (vn.tdiv vd) = vn / vd := by
                  rw [Int.tdiv_eq_ediv_of_nonneg hx0]
                  have := Int.ediv_nonneg hx0 (show 0 ≤ vd by omega)
                  exact IntWalk.i64_in _ (by omega)
                by_cases hM9 : M < 1000000000
                · have hmm : 0 ≤ M * M ∧ M * M ≤ 1000000000000000000 := ⟨Int.mul_nonneg hM.1 hM.1, by have := Int.mul_le_mul (show M ≤ 1000000000 by omega) (show M ≤ 1000000000 by omega) hM.1 (by decide); omega⟩
                  have e5 : IntKind.i64.wrap (M * M) = M * M := IntWalk.i64_in _ (by omega)
                  have e6 : IntKind.i64.wrap ((M * M).tdiv (2 * (b : Int) * b * ev * ev)) = M * M / (2 * (b : Int) * b * ev * ev) := by
                    rw [Int.tdiv_eq_ediv_of_nonneg hmm.1]
                    have h1 := Int.ediv_nonneg hmm.1 (show 0 ≤ 2 * (b : Int) * b * ev * ev by omega)
                    have h2 := Int.ediv_le_self (2 * (b : Int) * b * ev * ev) hmm.1
                    exact IntWalk.i64_in _ (by omega)
                  have e7 : ¬ (M * M / (2 * (b : Int) * b * ev * ev) < vn / vd) := by have := HSA.out; omega
                  clear hx0 hy1 hxy hM hbb hbe hbe2 hmm hi hi2
                  go_upto_region 26 with fail
                  go_quiet (fail)
                  go_wp2
                  go_meet
                  exact Lib.hid (HL5.out.below (below_drewN (Below.refl _ _) _))
                · clear hx0 hy1 hxy hM hbb hbe hbe2 hi hi2
                  go_upto_region 26 with fail
                  go_quiet (fail)
                  go_wp2
                  go_meet
                  exact Lib.hid (HL5.out.below (below_drewN (Below.refl _ _) _))
        case rest =>
          have HLR := hcut
          clear HOC HVB HLA HRE HN2
          obtain ⟨x0, x1, x2⟩ := HLR.out.wb
          have hz := cell_lt x0
          have hra := HRA.out
          have hfr := HFR.out
          have r1 : IntKind.i64.wrap (1000 * ra) = 1000 * ra := IntWalk.i64_in _ (by omega)
          have r2 : IntKind.i64.wrap ((1000 * ra).tdiv 100) = 10 * ra := by
            rw [show 1000 * ra = 10 * ra * 100 by omega, Int.mul_tdiv_cancel _ (by decide)]
            exact IntWalk.i64_in _ (by omega)
          obtain ⟨f, hf⟩ : ∃ f, f = fr % 10 := ⟨_, rfl⟩
          have r3 : IntKind.i64.wrap (fr.tmod 10) = f := by rw [Int.tmod_eq_emod_of_nonneg hfr.1, ← hf]; exact IntWalk.i64_in _ (by omega)
          have r4 : IntKind.i64.wrap (1000 * f) = 1000 * f := IntWalk.i64_in _ (by omega)
          have r5 : fr % 10 = f := hf.symm
          have hf2 : 0 ≤ f ∧ f ≤ 9 := by omega
          obtain ⟨L2, hT2, hL2, hline⟩ := Wd.plain_track W.seed ra f q hra hf2 (by omega)
          have HON := Lib.hid (flat_line hL2 hline)
          have HT2 := Lib.hid hT2
          have HL2 := Lib.hid hL2
          clear hf hline hT2 hL2 hra hfr
          have B1 := below_alloc (below_alloc (below_alloc (Below.refl wc.heap.size wc) (.cells #[.int .i64 20000, .int .i64 0, .int .i64 2] 64)) (.cells #[.int .i64 1, .int .i64 0, .int .i64 (10 * ra), .int .i64 0, .int .i64 0, .int .i64 0, .int .i64 0, .int .i64 0, .slice none 0 0] 68)) (.cells #[.int .u64 W.seed, .slice (some ⟨wc.heap.size, 0, none⟩) 1 1, .slice (some ⟨wc.heap.size + 1, 0, none⟩) 1 1] 35)
          have hT0 := HT.out.below (HLR.out.bel.trans (B1.mono HLR.out.bel.size))
          have HTC := Lib.hid (Wd.Track_any (Wd.flatW W.seed (10 * ra)) 0 (1000 * f) 100 q (some ⟨wc.heap.size, 0, none⟩) (some ⟨wc.heap.size + 1, 0, none⟩) 1 1 _ hT0 (flat_in wc W.seed (10 * ra) 64 68 _) (by decide))
          have HLR1 := Lib.hid (HLR.out.below B1)
          have HB1 := Lib.hid B1.size
          clear hT0 B1
          go_wp2_with fail
          refine HTC.out.mono ?_
          rintro e w5 ⟨tv2, rfl, ⟨hrow, hown2⟩, hb5⟩
          rw [HT2.out] at hrow ⊢
          obtain ⟨tp2, tc2, rfl, hm2, hs2⟩ := hrow
          dsimp only at hs2 hm2
          have HL5 := Lib.hid (HLR1.out.below hb5)
          have hser : SerIn w5 L2 tp2 := ⟨hm2, hs2⟩
          have hbig : ∀ kk oo, tp2 = some ⟨kk, oo, none⟩ → wc.heap.size ≤ kk := fun kk oo e => Nat.le_trans HB1.out (hown2 kk (by rw [e]; rfl))
          have HL2X : Hid (Late2 w ((w5.setCell ⟨w2.heap.size, 0, none⟩ (.int .i64 100)).setCell ⟨w2.heap.size, 1, none⟩ (.slice none 0 0)) w2.heap.size bv tp2 L2 (.slice none 0 0) []) := Lib.hid (by
            have hl1 := HLR.out.v.lt
            have hl2 := HLR.out.lt
            refine ⟨SBox.reset HL5.out.bel HL5.out.ge HL5.out.s 100, (HL5.out.v.far (by omega)).far (by omega), ?_, by simp [Value.ownBlock], fun kk oo e => ?_, hl2⟩
            · exact (hser.other fun kk oo e => by have := hbig kk oo e; omega).other fun kk oo e => by have := hbig kk oo e; omega
            · have := hbig kk oo e
              refine ⟨by simp [Value.ownBlock], by omega, ?_⟩
              rcases hs2 with h0 | ⟨k', o', e', hi⟩
              · rw [HL2.out] at h0; omega
              · rw [e] at e'
                cases e'
                simpa using cell_lt (hi 0 (by rw [HL2.out]; omega)))
          rw [HL2.out]
          obtain ⟨⟨su, sv, s0, s1⟩, sf0, sf1⟩ := HL5.out.s
          have hz5 := cell_lt s0
          clear hs2 hm2 hser hbig hown2 hb5 HTC HLR HLR1 HB1 x0 x1 x2 hz r1 r2 r3 r4 r5
          go_upto_region 35 with fail
          generalize hW6 : (w5.setCell ⟨w2.heap.size, 0, none⟩ (.int .i64 100)).setCell ⟨w2.heap.size, 1, none⟩ (.slice none 0 0) = W6 at *
          clear hW6 s0 s1 sf0 sf1 hz5 HL5
          go_wp2_with fail
          go_loopw [35, 256] (fun s i wr => ∃ (j : Nat) (x v : Value), j ≤ q ∧ s = x ∧ i = .int .i64 (j : Int) ∧ Hid (Late2 w wr w2.heap.size bv tp2 L2 v (subL L2 j))) (fun _ i _ => q - (intOf i).toNat)
          case atStart => exact ⟨0, _, _, Nat.zero_le _, rfl, rfl, HL2X⟩
          case round =>
            obtain ⟨j, xv2, v2, hj, rfl, rfl, HSQ2⟩ := hrel
            by_cases hlt : j < q
            · have hqi : (j : Int) < q := by omega
              have HQ := Lib.hid hlt
              have hlq : (subL L2 j).length = j := subL_len L2 j
              obtain ⟨lb, lo, rfl, hli⟩ := (HSQ2.out.ser.2).resolve_left (by rw [HL2.out]; omega)
              have x0 := hli 0 (by rw [HL2.out]; omega)
              have xq := hli j (by rw [HL2.out]; omega)
              rw [Nat.add_zero] at x0
              have c1x := HSQ2.out.sb.c1
              have hz := cell_lt c1x
              have hzl := cell_lt x0
              have HL1 := Lib.hid (subL_succ L2 j)
              have hba := HON.out.at_ j (by rw [subL_len]; omega)
              rw [subL_at _ _ _ hlt] at hba
              have hra := HRA.out
              have hbm : -1310720 ≤ ra * (j : Int) ∧ ra * (j : Int) ≤ 1310720 := by
                have h1 := Int.mul_le_mul hra.2 (show (j : Int) ≤ 40 by omega) (by omega) (by decide)
                have h2 := Int.mul_le_mul (show -ra ≤ 32768 by omega) (show (j : Int) ≤ 40 by omega) (by omega) (by decide)
                rw [Int.neg_mul] at h2
                omega
              rw [atL_get] at x0 xq
              have w1x : IntKind.i64.wrap (atL L2 j - atL L2 0) = atL L2 j - atL L2 0 := IntWalk.i64_in _ (by omega)
              generalize atL L2 j = yq at *
              generalize atL L2 0 = y0 at *
              have hn0 : 0 < q := by omega
              have HSD := Lib.hid HSQ2.out.drew
              clear hba hbm hli hlt hra
              go_upto_region 38 with fail
              go_region_law (refine step_append_lies _ rfl (.tmp 261) (.tmp 267) _ rfl w.heap.size 3 i0 (.int .i64 0) 1 8 Tryz.underlying38 hi0 hz0 hz1 hz2 rfl (by decide) _ _ _ rfl (HSD.out.sb.own.alloc _) ⟨_, 0, none⟩ 1 1 [.int .i64 (yq - y0)] rfl rfl (cell_one_new _ _ _) (by simp [Value.oneCell']) (by decide) (by rw [hlq]; unfold maxLen; omega) (by rw [hlq]; omega) (by have := HSD.out.sb.bel.size; simp at this; simp; omega) _ rfl ?_; intro gn cn z1 hown hg hb _; have HG := Lib.hid (HSD.out.sb.grow hown hg (hb.imp (fun h => h.symm) (fun h => congrArg some h))); have HNX := Lib.hid (HSD.out.step hown hg (hb.imp (fun h => h.symm) (fun h => congrArg some h))); obtain ⟨u, d1⟩ := HG.out.c1; have d2 := HG.out.f1; have hz' := cell_lt d1; clear hown hg hb c1x)
              all_goals
                have HS2 := HNX.out
                rw [← HL1.out, hlq] at HS2
                go_wp2_with fail
                go_roundw
                case rel => exact ⟨j + 1, _, _, HQ.out, rfl, by simp, Lib.hid HS2⟩
                case measure => have := HQ.out; simp [intOf]; omega
            · obtain rfl : j = q := by omega
              obtain ⟨sp2, sc2, rfl, hss2, -⟩ := OwnI.ser HSQ2.out.sb.own
              have hc0 := HSQ2.out.sb.c0
              have hc1 := HSQ2.out.sb.c1
              rw [subL_len] at hc1
              have hz := cell_lt hc0
              have hser : SerIn wr (subL L2 j) sp2 := ⟨by rw [subL_len]; unfold maxLen; omega, hss2⟩
              have HOV := Lib.hid (overlapping_any 100 (subL L2 j) sp2 sc2 1 wr hser)
              rw [subL_len] at HOV
              have HBO := Lib.hid (on_both (tau := 100) HON.out (by rw [subL_len]; omega) (by rw [subL_len]; omega))
              have HNV := Lib.hid HSQ2.out.nev
              have HSE := Lib.hid hser
              have HLT2 := Lib.hid HSQ2.out.lt
              clear hss2 hser
              go_wp2_with fail
              refine HOV.out.mono ?_
              rintro e w6 ⟨rfl, hb6⟩
              have hF := HSQ2.out.fv.below hb6
              obtain ⟨⟨fu, fv, fh0, fh1⟩, ff0, ff1⟩ := id hF
              have hzv := cell_lt fh0
              have kc0 := cell_below hb6 hc0
              have kc1 := cell_below hb6 hc1
              have HS6 := Lib.hid (HSE.out.below hb6)
              have HB6 := Lib.hid (HSQ2.out.sb.bel.trans (hb6.mono HSQ2.out.sb.bel.size))
              have HGE := Lib.hid HSQ2.out.sb.ge
              generalize hVV : overlappingE 100 (subL L2 j) 1 = V at *
              generalize hRR : restE 100 (subL L2 j) = R at *
              obtain ⟨an, ad, ae⟩ := V
              obtain ⟨rn, rd, re⟩ := R
              have HRR := Lib.hid hRR
              unfold varVal
              dsimp only
              clear hc0 hc1 hz HOV hb6 hVV hRR HSE HSQ2
              have hne : w2.heap.size ≠ bv := by have := HLT2.out; omega
              have m0 : ((w6.setCell ⟨bv, 0, none⟩ (.int .i64 an)).setCell ⟨bv, 1, none⟩ (.int .i64 ad)).cell? ⟨bv, 0, none⟩ = some (.int .i64 an) := by
                rw [World.cell?_setCell_other _ ⟨bv, 1, none⟩ ⟨bv, 0, none⟩ _ (fun e => by cases e)]; exact World.cell?_setCell_same _ _ _ fh0
              have m1 : ((w6.setCell ⟨bv, 0, none⟩ (.int .i64 an)).setCell ⟨bv, 1, none⟩ (.int .i64 ad)).cell? ⟨bv, 1, none⟩ = some (.int .i64 ad) :=
                World.cell?_setCell_same _ _ _ (u := fv) (by rw [World.cell?_setCell_other w6 ⟨bv, 0, none⟩ ⟨bv, 1, none⟩ _ (fun e => by cases e)]; exact fh1)
              have HM : Hid (VB ((w6.setCell ⟨bv, 0, none⟩ (.int .i64 an)).setCell ⟨bv, 1, none⟩ (.int .i64 ad)) bv an ad) := Lib.hid ⟨m0, m1⟩
              have HS7 : Hid (SerIn ((w6.setCell ⟨bv, 0, none⟩ (.int .i64 an)).setCell ⟨bv, 1, none⟩ (.int .i64 ad)) (subL L2 j) sp2) := Lib.hid ((HS6.out.other fun kk oo e h => HNV.out (by rw [e, h]; rfl)).other fun kk oo e h => HNV.out (by rw [e, h]; rfl))
              have k7 : ((w6.setCell ⟨bv, 0, none⟩ (.int .i64 an)).setCell ⟨bv, 1, none⟩ (.int .i64 ad)).cell? ⟨w2.heap.size, 0, none⟩ = some (.int .i64 100) := by
                rw [World.cell?_setCell_far _ _ _ _ hne.symm, World.cell?_setCell_far _ _ _ _ hne.symm]; exact kc0
              have k8 : ((w6.setCell ⟨bv, 0, none⟩ (.int .i64 an)).setCell ⟨bv, 1, none⟩ (.int .i64 ad)).cell? ⟨w2.heap.size, 1, none⟩ = some (.slice sp2 j sc2) := by
                rw [World.cell?_setCell_far _ _ _ _ hne.symm, World.cell?_setCell_far _ _ _ _ hne.symm]; exact kc1
              have HB7 : Hid (Below w.heap.size w ((w6.setCell ⟨bv, 0, none⟩ (.int .i64 an)).setCell ⟨bv, 1, none⟩ (.int .i64 ad))) := Lib.hid ((HB6.out.setCell (p := ⟨bv, 0, none⟩) (by show w.heap.size ≤ bv; have := HLT2.out; have := HGE.out; omega) _).setCell (p := ⟨bv, 1, none⟩) (by show w.heap.size ≤ bv; have := HLT2.out; have := HGE.out; omega) _)
              have HK := Lib.hid (And.intro k7 k8)
              clear m0 m1 kc0 kc1 k7 k8 HS6 HB6 hF
              go_upto_region 41 with fail
              generalize (w6.setCell ⟨bv, 0, none⟩ (.int .i64 an)).setCell ⟨bv, 1, none⟩ (.int .i64 ad) = W7 at *
              obtain ⟨k7, k8⟩ := HK.out
              have hz := cell_lt k7
              have HRS := Lib.hid (Rest_any 100 (subL L2 j) sp2 sc2 W7 HS7.out)
              rw [subL_len] at HRS
              clear fh0 fh1 ff0 ff1 hzv
              go_wp2_with fail
              refine HRS.out.mono ?_
              rintro e w8 ⟨rfl, hb8⟩
              rw [HRR.out]
              dsimp only
              have b9 := below_alloc (Below.refl w8.heap.size w8) (.cells #[.int .i64 rn, .int .i64 rd] 58)
              obtain ⟨z0, z1⟩ := (HM.out.below hb8).below b9
              obtain ⟨z2, z3⟩ := vb_new w8 rn rd 58
              have hz0' := cell_lt z0
              have hz2' := cell_lt z2
              have HB9 := Lib.hid ((HB7.out.trans (hb8.mono HB7.out.size)).trans (b9.mono (HB7.out.trans (hb8.mono HB7.out.size)).size))
              clear k7 k8 hz HK HRS hb8 b9
              go_upto_region 42 with fail
              generalize w8.alloc (.cells #[.int .i64 rn, .int .i64 rd] 58) = W9 at *
              rcases HBO.out with ⟨-, h1, h2⟩ | ⟨-, h1, h2⟩
              · cases h1
                cases h2
                go_wp2_with fail
                refine (awake_any _).mono ?_
                rintro e wZ ⟨rfl, hbZ⟩
                have HF := Lib.hid (HB9.out.trans (hbZ.mono HB9.out.size))
                clear hbZ z0 z1 z2 z3
                go_wp2
                go_ret
                exact ⟨rfl, HF.out⟩
              · cases h1
                cases h2
                go_wp2_with fail
                refine (awake_any _).mono ?_
                rintro e wZ ⟨rfl, hbZ⟩
                have HF := Lib.hid (HB9.out.trans (hbZ.mono HB9.out.size))
                clear hbZ z0 z1 z2 z3
                go_wp2
                go_ret
                exact ⟨rfl, HF.out⟩
theorem reached_any (W : Wd.Wld) (k fr st co m ra : Int) (p1 p2 : Option Addr) (c1 c2 : Nat) (w : World) (ht : Wd.Tabs w) (hW : Wd.WldIn w W p1 p2)
    (bfr : 0 ≤ fr ∧ fr ≤ 65535) (bst : 0 ≤ st ∧ st ≤ 255) (bco : 0 ≤ co ∧ co ≤ 255) (bm : 0 ≤ m ∧ m ≤ 255) (bra : -32768 ≤ ra ∧ ra ≤ 32767) :
    Calls Tryz.prog 4 #[.agg #[.int .u64 W.seed, .slice p1 W.chs.length c1, .slice p2 W.cls.length c2], .int .i64 k, .int .u16 fr, .int .u8 st, .int .u8 co, .int .u8 m, .int .i16 ra] w fun e w' => e = .returned (.bool true) ∧ Below w.heap.size w w' := by
  by_cases h : Wd.checkS W ≠ 0 ∨ W.cls.length < 1 ∨ 16 < W.cls.length
  · exact reached_no W k fr st co m ra p1 p2 c1 c2 w ht hW h
  · exact reached_main W k fr st co m ra p1 p2 c1 c2 w ht hW (by omega) (by omega) (by omega) bfr bst bco bm bra
end Go.Proofs.YtemblamamgfodaaGreatDoor
