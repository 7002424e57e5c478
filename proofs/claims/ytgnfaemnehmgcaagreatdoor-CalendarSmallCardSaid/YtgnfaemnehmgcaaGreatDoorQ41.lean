/-  ·  ·  -/
import Derived.Test.YtgnfaemnehmgcaaGreatDoorQ40
import Derived.RangeFuncNested
import Derived.RangeFuncBound
import Derived.RangeFuncCalls
import Derived.RangeFuncLeaves
import Derived.Shelf.Abstract
import Derived.Shelf.RegionOpen
import Derived.WalkKit
import Derived.OwnWalkIn
import Derived.TacticsInMore
import Derived.LoopNIn
import Derived.LoopIn
import Derived.RangeFuncBox
namespace Go.Proofs.YtgnfaemnehmgcaaGreatDoor.Cal
open Go Go.RowKit Go.Shelf
attribute [local go_sem] Oper.semAt_some
def Kx (q : Nat) : Type := { k : Nat // k ≤ q }
def kx (q k : Nat) (h : k ≤ q) : Kx q := ⟨k, h⟩
def kxL (q : Nat) : (k : Nat) → k ≤ q + 1 → List (Kx q)
  | 0, _ => []
  | k + 1, h => kxL q k (Nat.le_of_succ_le h) ++ [kx q k (Nat.le_of_succ_le_succ h)]
theorem kxL_len (q : Nat) : ∀ k h, (kxL q k h).length = k
  | 0, _ => rfl
  | k + 1, h => by simp [kxL, kxL_len q k]
theorem kxL_prefix (q : Nat) {k : Nat} (h : k ≤ q + 1) : ∀ {n : Nat} (hn : n ≤ q + 1), k ≤ n → kxL q k h <+: kxL q n hn
  | 0, _, hk => by obtain rfl : k = 0 := by omega
                   exact List.prefix_refl _
  | n + 1, hn, hk => by
    by_cases e : k = n + 1
    · subst e; exact List.prefix_refl _
    · refine (kxL_prefix q h (Nat.le_of_succ_le hn) (by omega)).trans ?_
      exact List.prefix_append _ _
def encZ (o : Int) (q : Nat) (g : Nat → Int × Int) (d : Kx q) : Array Value := #[.int .i64 (offK o g d.1), .agg #[.int .i64 (fromK g d.1), .int .i64 (hiK q g d.1)]]
structure KpN (N B : Nat) (X Y : World) : Prop where
  size : X.heap.size ≤ Y.heap.size
  low : ∀ (k : Nat) (o : Obj), k < N → k ≠ B → X.heap[k]? = some o → Y.heap[k]? = some o
  typ : ∀ (k : Nat) (a : Array Value) (t : TypeId), t ≠ 3 → t ≠ 30 → X.heap[k]? = some (Obj.cells a t) → Y.heap[k]? = some (Obj.cells a t)
theorem KpN.trans {N B : Nat} {X Y Z : World} (h : KpN N B X Y) (k : KpN N B Y Z) : KpN N B X Z :=
  ⟨Nat.le_trans h.size k.size, fun i o h1 h2 h3 => k.low i o h1 h2 (h.low i o h1 h2 h3), fun i a t h1 h2 h3 => k.typ i a t h1 h2 (h.typ i a t h1 h2 h3)⟩
theorem KpN.of_below {N B : Nat} {X Y : World} (h : Below X.heap.size X Y) : KpN N B X Y :=
  ⟨h.size, fun k o _ _ hk => by
    rw [h.block k (Array.getElem?_eq_some_iff.1 hk).1]; exact hk, fun k a t _ _ hk => by
    rw [h.block k (Array.getElem?_eq_some_iff.1 hk).1]; exact hk⟩
theorem KpN.putObj {N B : Nat} {m : Nat} (hm : N ≤ m) (W : World) (l : Nat) (o o' : Obj) (hl : m ≤ l) (h : W.heap[l]? = some o) (hc : o.isCells = false) : KpN N B W (W.putObj l o') :=
  ⟨by simp, fun k ob h1 _ hk => (World.putObj_heap_other (by omega)).trans hk, fun k a t _ _ hk => by
    by_cases e : k = l
    · subst e; rw [h] at hk; cases hk; cases hc
    · exact (World.putObj_heap_other e).trans hk⟩
theorem KpN.cell {N B : Nat} {X Y : World} (h : KpN N B X Y) {b o : Nat} (h1 : b < N) (h2 : b ≠ B) {v : Value} (hc : X.cell? ⟨b, o, none⟩ = some v) : Y.cell? ⟨b, o, none⟩ = some v := by
  have hl := cell_lt hc
  obtain ⟨ob, hob⟩ : ∃ ob, X.heap[b]? = some ob := ⟨_, Array.getElem?_eq_getElem hl⟩
  rw [← hc]
  exact World.cell?_of_block (a := ⟨b, o, none⟩) ((h.low b ob h1 h2 hob).trans hob.symm)
theorem KpN.cellT {N B : Nat} {X Y : World} (h : KpN N B X Y) {b : Nat} {a : Array Value} {t : TypeId} (h1 : t ≠ 3) (h2 : t ≠ 30) (hb : X.heap[b]? = some (Obj.cells a t)) (o : Nat) : Y.cell? ⟨b, o, none⟩ = X.cell? ⟨b, o, none⟩ :=
  World.cell?_of_block (a := ⟨b, o, none⟩) ((h.typ b a t h1 h2 hb).trans hb.symm)
theorem heap_below {X Y : World} {b : Nat} {o : Obj} (h : Below X.heap.size X Y) (hb : X.heap[b]? = some o) : Y.heap[b]? = some o := by
  rw [h.block b (Array.getElem?_eq_some_iff.1 hb).1]; exact hb
theorem gbw {A B : World} (h : Below A.heap.size A B) : A.grownBy B none := ⟨h.os, h.tape, h.output, h.size, fun k hk _ => h.block k hk⟩
def LowIn (N B q : Nat) (p : Option Addr) : Prop := q = 0 ∨ ∃ b o, p = some ⟨b, o, none⟩ ∧ b < N ∧ b ≠ B
theorem KpN.lp {N B : Nat} {X Y : World} (h : KpN N B X Y) {g : Nat → Int × Int} {q : Nat} {p : Option Addr} (hl : LpIn X g q p) (hp : LowIn N B q p) : LpIn Y g q p := by
  rcases hl with h0 | ⟨b, o, hpe, hi⟩
  · exact .inl h0
  · rcases hp with h0 | ⟨b', o', e, h1, h2⟩
    · exact .inl h0
    · rw [hpe] at e
      cases e
      exact .inr ⟨b, o, hpe, fun i hi' => ⟨h.cell h1 h2 (hi i hi').1, h.cell h1 h2 (hi i hi').2⟩⟩
structure ZAt (W : World) (Bl : Nat) (o : Int) (g : Nat → Int × Int) (q c : Nat) (p : Option Addr) : Prop where
  box : W.heap[Bl]? = some (.cells #[.int .i64 o, .slice p q c] 38)
  lp : LpIn W g q p
theorem zone_nint : 38 ≠ 3 := by decide
theorem zone_nlist : 38 ≠ 30 := by decide
theorem chg_nint : 35 ≠ 3 := by decide
theorem chg_nlist : 35 ≠ 30 := by decide
theorem ZAt.kept {X Y : World} {N B Bl : Nat} {o : Int} {g : Nat → Int × Int} {q c : Nat} {p : Option Addr} (h : ZAt X Bl o g q c p) (hk : KpN N B X Y) (hp : LowIn N B q p) : ZAt Y Bl o g q c p := ⟨hk.typ _ _ _ zone_nint zone_nlist h.box, hk.lp h.lp hp⟩
theorem ZAt.below {X Y : World} {Bl : Nat} {o : Int} {g : Nat → Int × Int} {q c : Nat} {p : Option Addr} (h : ZAt X Bl o g q c p) (hb : Below X.heap.size X Y) : ZAt Y Bl o g q c p := ⟨heap_below hb h.box, h.lp.below hb⟩
theorem ZAt.cells {X : World} {Bl : Nat} {o : Int} {g : Nat → Int × Int} {q c : Nat} {p : Option Addr} (h : ZAt X Bl o g q c p) : ZBox X Bl o q c p := by
  have hb := h.box
  constructor <;> simp [World.cell?, hb]
set_option maxRecDepth 100000 in
set_option maxHeartbeats 2000000 in
theorem offs1_in (n lp Bl N B : Nat) (o : Int) (q c : Nat) (p : Option Addr) (g : Nat → Int × Int) (hz : ZoneOk o q g) (hgt : ∀ i, i < q → (g i).1 ≤ 9223372036854775807) (hlow : LowIn N B q p) (hn : 1 ≤ n) (J Jx : List (Kx q) → World → Prop) (W : World)
    (hY : ∀ pre d W1, J pre W1 → pre.length < q + 1 → YieldAt Fence.wide (n - 1) Tryz.prog lp (encZ o q g d) W1 fun e W' =>
      (e = .returned (.bool true) ∧ J (pre ++ [d]) W' ∧ KpN N B W1 W') ∨ (e = .returned (.bool false) ∧ Jx (pre ++ [d]) W'))
    (hJ : AbidesFrom W.heap.size J) (hD : ZAt W Bl o g q c p) (hJ0 : J [] W) :
    CallsIn Fence.wide n Tryz.prog 152 #[.func (.yield lp) #[] #[], .pointer (some ⟨Bl, 0, none⟩)] W fun e W' => (∃ v, e = .returned v) ∧
      ((∃ ys, ys = kxL q (q + 1) (Nat.le_refl _) ∧ J ys W') ∨ (∃ pre, pre <+: kxL q (q + 1) (Nat.le_refl _) ∧ Jx pre W')) := by
  have hro : Fence.wide.round = none := rfl
  have HJ := Lib.hid (show ∀ (s : List (Kx q)) (X Y : World), J s X → W.heap.size ≤ X.heap.size → Below X.heap.size X Y → J s Y from fun s X Y h _ hb => hJ s X Y none h (gbw hb) (fun r e => by cases e))
  have HD0 := Lib.hid hD
  obtain ⟨hc0, hc1⟩ := hD.cells
  have HZ := Lib.hid hz
  have hq := hz.q1
  clear hD hJ hz
  refine callsIn_of_wp Tryz.func152 rfl trivial ?_ hro
  simp only [Tryz.ntmps152, List.size_toArray, List.length_cons, List.length_nil, Nat.reduceAdd, Nat.reduceSub, Array.replicate_succ, Array.replicate_zero, List.push_toArray, List.append_toArray, List.nil_append, List.cons_append]
  refine wpIn_wide.2 ?_
  go_wp2
  go_region
  go_wp2
  have hb0 : Below W.heap.size W W.drew := Below.drew (Below.refl _ _)
  have hJ1 := HJ.out _ _ _ hJ0 (Nat.le_refl _) hb0
  have HD1 := Lib.hid (HD0.out.below hb0)
  have HS1 := Lib.hid hb0.size
  clear hc0 hc1 hb0 hJ0 HD0
  generalize W.drew = V at *
  refine (wpIn_wide (n := n)).1 ?_
  gi_loopw [3, 4, 6, 12] (fun s3 s4 s6 i wr => ∃ (k : Nat) (h : k ≤ q) (v6 : Value), s3 = .int .i64 (fromK g k) ∧ s4 = .int .i64 (offK o g k) ∧ s6 = v6 ∧ i = .int .i64 (k : Int) ∧ Hid (ZAt wr Bl o g q c p) ∧ Hid (W.heap.size ≤ wr.heap.size) ∧ J (kxL q k (Nat.le_succ_of_le h)) wr) (fun _ _ _ i _ => q - (intOf i).toNat)
  case atStart => exact ⟨0, Nat.zero_le _, _, rfl, rfl, rfl, rfl, HD1, HS1, hJ1⟩
  case round =>
    obtain ⟨k, hk, v6, rfl, rfl, rfl, rfl, HD, HS, hJk⟩ := hrel
    by_cases hlt : k < q
    · have hki : (k : Int) < q := by omega
      obtain ⟨b, ob, rfl, hi⟩ := HD.out.lp.resolve_left (by omega)
      obtain ⟨x0, x1⟩ := hi k hlt
      have zx := cell_lt x0
      have HK := Lib.hid hlt
      have vk : IntKind.i64.wrap ((k : Int) + 1) = (k : Int) + 1 := IntWalk.i64_in _ (by omega)
      have hgk := (HZ.out.g1 k hlt)
      have vh : IntKind.i64.wrap ((g k).1 - 1) = hiK q g k := by
        unfold hiK; rw [if_pos hlt]
        have := hgt k hlt
        exact IntWalk.i64_in _ (by omega)
      have B1 := below_alloc (Below.refl wr.heap.size wr) (.cells #[.int .i64 (g k).1, .int .i64 (g k).2] 35)
      have h1 := hY (kxL q k (Nat.le_succ_of_le hk)) (kx q k hk) _ (HJ.out _ _ _ hJk HS.out B1) (by rw [kxL_len]; omega)
      obtain ⟨fn, tmps, assign, body, hy, hR⟩ := h1
      unfold encZ at hy
      dsimp only [kx] at hy
      have c0 : (wr.alloc (.cells #[.int .i64 (g k).1, .int .i64 (g k).2] 35)).cell? ⟨wr.heap.size, 0, none⟩ = some (.int .i64 (g k).1) := by simp
      have HB1 := Lib.hid B1
      have HF := Lib.hid (show fromK g (k + 1) = (g k).1 by unfold fromK; rw [if_neg (by omega), Nat.add_sub_cancel])
      have HO := Lib.hid (show offK o g (k + 1) = (g k).2 by unfold offK; rw [if_neg (by omega), Nat.add_sub_cancel])
      clear hlt hi hgk B1
      gi_wp2
      refine hR.mono ?_
      rintro e W3 (⟨rfl, hJ3, hk3⟩ | ⟨rfl, hJx3⟩)
      · have HD3 := Lib.hid ((HD.out.below HB1.out).kept hk3 hlow)
        have HS3 := Lib.hid (Nat.le_trans (Nat.le_trans HS.out HB1.out.size) hk3.size)
        have hbx := World.alloc_heap_new wr (.cells #[.int .i64 (g k).1, .int .i64 (g k).2] 35)
        have c0' := (hk3.cellT chg_nint chg_nlist hbx 0).trans c0
        have c1' := (hk3.cellT chg_nint chg_nlist hbx 1).trans (show (wr.alloc (.cells #[.int .i64 (g k).1, .int .i64 (g k).2] 35)).cell? ⟨wr.heap.size, 1, none⟩ = some (.int .i64 (g k).2) by simp)
        have zc := cell_lt c0'
        clear hy hR hk3 hbx c0 x0 x1 zx
        gi_wp2
        refine wpIn_wide.2 ?_
        go_region
        have hb3 : Below W3.heap.size W3 W3.drew := Below.drew (Below.refl _ _)
        have hJ4 := HJ.out _ _ _ hJ3 HS3.out hb3
        have HD4 := Lib.hid (HD3.out.below hb3)
        have HS4 := Lib.hid (Nat.le_trans HS3.out hb3.size)
        clear hJ3 HD3 HS3 hb3 c0' c1' zc
        generalize W3.drew = W4 at *
        gi_wp2
        go_roundw
        case rel => exact ⟨k + 1, HK.out, _, by rw [HF.out], by rw [HO.out], rfl, by simp, HD4, HS4, hJ4⟩
        case measure => have := HK.out; simp [intOf]; omega
      · clear hy hR
        gi_wp2
        refine bodyPost_ret (results_none rfl _ _ _) rfl ?_
        exact ⟨⟨_, rfl⟩, .inr ⟨_, kxL_prefix q (k := k + 1) (by have := HK.out; omega) (Nat.le_refl _) (by have := HK.out; omega), hJx3⟩⟩
    · obtain rfl : k = q := by omega
      have hki : ¬ ((k : Int) < k) := by omega
      have h1 := hY (kxL k k (Nat.le_succ k)) (kx k k (Nat.le_refl _)) _ hJk (by rw [kxL_len]; omega)
      obtain ⟨fn, tmps, assign, body, hy, hR⟩ := h1
      unfold encZ at hy
      dsimp only [kx] at hy
      rw [show hiK k g k = 9223372036854775807 by unfold hiK; rw [if_neg (Nat.lt_irrefl k)]] at hy
      clear hlt
      gi_wp2
      refine (wpIn_wide (n := n)).1 ?_
      gi_wp2
      refine hR.mono ?_
      rintro e W3 (⟨rfl, hJ3, hk3⟩ | ⟨rfl, hJx3⟩)
      · clear hy hR
        gi_wp2
        go_end0
        exact ⟨⟨_, rfl⟩, .inl ⟨_, rfl, hJ3⟩⟩
      · clear hy hR
        gi_wp2
        go_end0
        exact ⟨⟨_, rfl⟩, .inr ⟨_, List.prefix_refl _, hJx3⟩⟩
theorem offs1_stops (n Bl N B : Nat) (o : Int) (q c : Nat) (p : Option Addr) (g : Nat → Int × Int) (hz : ZoneOk o q g) (hgt : ∀ i, i < q → (g i).1 ≤ 9223372036854775807) (hlow : LowIn N B q p) (hn : 1 ≤ n) (w : World) (hD : ZAt w Bl o g q c p) :
    SeqStopsK Fence.wide n Tryz.prog 152 #[.pointer (some ⟨Bl, 0, none⟩)] (encZ o q g) (KpN N B)
      (fun ys => ys = kxL q (q + 1) (Nat.le_refl _)) (fun pre => pre <+: kxL q (q + 1) (Nat.le_refl _)) (q + 1) w := by
  intro lp J Jx W hW hJ _ hY hJ0
  exact offs1_in n lp Bl N B o q c p g hz hgt hlow hn J Jx W hY hJ (hD.below hW) hJ0
theorem offsets_any (o : Int) (q c : Nat) (p : Option Addr) (w : World) :
    Calls Tryz.prog 138 #[.agg #[.int .i64 o, .slice p q c]] w fun e w' => e = .returned (.func (.func 152) #[] #[.pointer (some ⟨w.heap.size, 0, none⟩)]) ∧ w.alloc (.cells #[.int .i64 o, .slice p q c] 38) = w' := by
  go_enter Tryz.func138, Tryz.ntmps138
  go_wp2_with fail
  go_ret
  exact ⟨rfl, rfl⟩
end Go.Proofs.YtgnfaemnehmgcaaGreatDoor.Cal
namespace Go.Proofs.YtgnfaemnehmgcaaGreatDoor.Cal
open Go Go.RowKit Go.Shelf
attribute [local go_sem] Oper.semAt_some
def lastZ (o : Int) (g : Nat → Int × Int) (x : Int) {q : Nat} (l : List (Kx q)) : Int := l.foldl (fun a d => if fromK g d.1 ≤ x then offK o g d.1 else a) o
theorem lastZ_snoc (o : Int) (g : Nat → Int × Int) (x : Int) {q : Nat} (l : List (Kx q)) (d : Kx q) : lastZ o g x (l ++ [d]) = if fromK g d.1 ≤ x then offK o g d.1 else lastZ o g x l := by simp [lastZ]
theorem lastZ_all (o : Int) (g : Nat → Int × Int) (x : Int) (q : Nat) : ∀ k h, lastZ o g x (kxL q k h) = offAt o g x k
  | 0, _ => rfl
  | k + 1, h => by rw [kxL, lastZ_snoc, lastZ_all o g x q k]; rfl
def Boxed2 (W : World) (B : Nat) (t : TypeId) (x y : Value) : Prop := W.heap[B]? = some (.cells #[x, y] t)
theorem Boxed2.kept {X Y : World} {row : Option Nat} {B : Nat} {t : TypeId} {x y : Value} (h : Boxed2 X B t x y) (hg : X.grownBy Y row) (hr : some B ≠ row) : Boxed2 Y B t x y :=
  (hg.block B (Array.getElem?_eq_some_iff.1 h).1 hr).trans h
theorem Boxed2.c0 {W : World} {B : Nat} {t : TypeId} {x y : Value} (h : Boxed2 W B t x y) : W.cell? ⟨B, 0, none⟩ = some x := by simp [World.cell?, show W.heap[B]? = _ from h]
theorem Boxed2.c1 {W : World} {B : Nat} {t : TypeId} {x y : Value} (h : Boxed2 W B t x y) : W.cell? ⟨B, 1, none⟩ = some y := by simp [World.cell?, show W.heap[B]? = _ from h]
theorem kp_set {N B : Nat} {W : World} {v0 : Value} {t : TypeId} (hB : W.heap[B]? = some (.cells #[v0] t)) (ht : t = 3 ∨ t = 30) (v : Value) : KpN N B W (W.setCell ⟨B, 0, none⟩ v) :=
  ⟨by simp, fun k o _ h2 hk => (Below.heap_setCell _ _ _ _ (fun e => h2 e)).trans hk, fun k a u h1 h2 hk => by
    refine (Below.heap_setCell _ _ _ _ (fun e => ?_)).trans hk
    subst e
    rw [hB] at hk
    cases hk
    rcases ht with e | e
    · exact h1 e
    · exact h2 e⟩
theorem LpIn.low {w : World} {g : Nat → Int × Int} {q : Nat} {p : Option Addr} (h : LpIn w g q p) {N B : Nat} (h1 : w.heap.size ≤ N) (h2 : w.heap.size ≤ B) : LowIn N B q p := by
  by_cases h0 : q = 0
  · exact .inl h0
  · obtain ⟨b, o, e, hi⟩ := h.resolve_left h0
    have := cell_lt (hi 0 (by omega)).1
    exact .inr ⟨b, o, e, by omega, by omega⟩
set_option maxRecDepth 100000 in
set_option maxHeartbeats 4000000 in
theorem zoffset_any (o : Int) (q c : Nat) (p : Option Addr) (g : Nat → Int × Int) (hz : ZoneOk o q g) (hgt : ∀ i, i < q → (g i).1 ≤ 9223372036854775807) (x : Int) (w : World) (hs : LpIn w g q p) :
    Calls Tryz.prog 120 #[.agg #[.int .i64 o, .slice p q c], .int .i64 x] w fun e w' => e = .returned (.int .i64 (offAt o g x (q + 1))) ∧ Below w.heap.size w w' := by
  refine (callsIn_wide (n := 9)).1 ?_
  have hro : Fence.wide.round = none := rfl
  refine callsIn_of_wp_marks Tryz.func120 rfl trivial ?_ hro
  simp only [Tryz.ntmps120, List.size_toArray, List.length_cons, List.length_nil, Nat.reduceAdd, Nat.reduceSub, Array.replicate_succ, Array.replicate_zero, List.push_toArray, List.append_toArray, List.nil_append, List.cons_append]
  refine wpIn_wide.2 ?_
  go_wp2_with (go_at_call 138; refine (offsets_any _ _ _ _ _).mono ?_; rintro e w' ⟨rfl, rfl⟩)
  obtain ⟨W0, hW0⟩ : ∃ W0, (((w.alloc (.cells #[.int .i64 o, .slice p q c] 38)).alloc (.cells #[.int .i64 x] 3)).alloc (.cells #[.int .i64 o] 3)).alloc (.cells #[.int .i64 o, .slice p q c] 38) = W0 := ⟨_, rfl⟩
  have hB0 : Below w.heap.size w W0 := by
    rw [← hW0]
    exact below_alloc (below_alloc (below_alloc (below_alloc (Below.refl _ _) _) _) _) _
  have hsz : W0.heap.size = w.heap.size + 4 := by rw [← hW0]; simp
  have bX : Boxed W0 (w.heap.size + 1) 3 (.int .i64 x) := by
    rw [← hW0]
    have := ((Boxed.new (w.alloc (.cells #[.int .i64 o, .slice p q c] 38)) 3 (.int .i64 x)).alloc (.cells #[.int .i64 o] 3)).alloc (.cells #[.int .i64 o, .slice p q c] 38)
    simpa using this
  have bL : Boxed W0 (w.heap.size + 1 + 1) 3 (.int .i64 o) := by
    rw [← hW0]
    have := (Boxed.new ((w.alloc (.cells #[.int .i64 o, .slice p q c] 38)).alloc (.cells #[.int .i64 x] 3)) 3 (.int .i64 o)).alloc (.cells #[.int .i64 o, .slice p q c] 38)
    simpa using this
  have hD : ZAt W0 (w.heap.size + 1 + 1 + 1) o g q c p := by
    refine ⟨?_, hs.below hB0⟩
    rw [← hW0]
    have := World.alloc_heap_new (((w.alloc (.cells #[.int .i64 o, .slice p q c] 38)).alloc (.cells #[.int .i64 x] 3)).alloc (.cells #[.int .i64 o] 3)) (.cells #[.int .i64 o, .slice p q c] 38)
    simpa using this
  have hlow : LowIn W0.heap.size (w.heap.size + 1 + 1) q p := hs.low (by omega) (by omega)
  rw [hW0]
  clear hW0
  have HST := offs1_stops 8 (w.heap.size + 1 + 1 + 1) W0.heap.size (w.heap.size + 1 + 1) o q c p g hz hgt hlow (by decide) W0 hD
  refine (wpIn_wide (n := 9)).1 ?_
  refine wpIn_rangeFunc_ownH hro (by decide) (gf := 152) (lb := #[.pointer (some ⟨w.heap.size + 1 + 1 + 1, 0, none⟩)]) rfl trivial (enters_of Tryz.func152 (by kernel_rfl) rfl)
    HST (fun h k => h.trans k) (fun W l ob ob' h1 h2 h3 _ => KpN.putObj (Nat.le_refl _) W l ob ob' h1 h2 h3) (Below.refl _ _) (fun _ => rfl)
    (fun pre W => (Boxed W (w.heap.size + 1 + 1) 3 (.int .i64 (lastZ o g x pre)) ∧ Boxed W (w.heap.size + 1) 3 (.int .i64 x)) ∧ Below w.heap.size w W) (fun _ _ _ => False)
    (OwnFrom.and (OwnFrom.and (Own.from (boxed_own _ _ _) _) (Own.from (boxed_own _ _ _) _)) (ownFrom_below (Nat.le_refl _) (by omega)))
    (fun _ _ _ _ _ hs _ _ => hs) ⟨⟨bL, bX⟩, hB0⟩
    (fun d a' W => ∃ b, w.heap.size + 1 + 1 < b ∧ Boxed2 W b 171 (.int .i64 (fromK g d.1)) (.int .i64 (hiK q g d.1)) ∧ a' = { tmps := #[.agg #[.int .i64 o, .slice p q c], .int .i64 x, .pointer (some ⟨w.heap.size, 0, none⟩), .pointer (some ⟨w.heap.size + 1, 0, none⟩), .int .i64 0, .pointer (some ⟨w.heap.size + 1 + 1, 0, none⟩), .int .i64 (offK o g d.1), .pointer (some ⟨b, 0, none⟩), .pointer (some ⟨w.heap.size, 0, none⟩), .int .i64 o, .agg #[.int .i64 o, .slice p q c], .func (.func 152) #[] #[.pointer (some ⟨w.heap.size + 1 + 1 + 1, 0, none⟩)], .int .i64 (offK o g d.1), .agg #[.int .i64 (fromK g d.1), .int .i64 (hiK q g d.1)], undef, undef, undef, undef, undef, undef], defers := [] })
    (fun d a' _ X Y row hs hg hr => by
      obtain ⟨b, h1, h2, h3⟩ := hs
      exact ⟨b, h1, h2.kept hg (fun e => by obtain ⟨_, o, ho, hc⟩ := hr b e.symm; rw [show X.heap[b]? = _ from h2] at ho; cases ho; cases hc), h3⟩) ?assign ?body ?done ?stop
  case assign =>
    rintro lp pre d W K ⟨⟨i1, i2⟩, i3⟩ hK
    unfold encZ
    gi_wp2
    refine hK _ _ ((KeepsOthers.alloc _ _).from _) (KpN.of_below (below_alloc (Below.refl _ _) _)) ⟨⟨i1.alloc _, i2.alloc _⟩, below_alloc i3 _⟩ ⟨_, ?_, ?_, rfl⟩
    · have := i1.lt; omega
    · exact World.alloc_heap_new _ _
  case body =>
    rintro lp pre d a' W hlp hrc ⟨⟨i1, i2⟩, i3⟩ ⟨b, hb, hB, rfl⟩ hlen
    have hB0 := hB.c0
    have x1 := i1.cell
    have x1f := i1.frozen
    have x2 := i2.cell
    have z0 := cell_lt hB0
    have z1 := cell_lt x1
    have z2 := cell_lt x2
    by_cases hc : fromK g d.1 ≤ x
    · gi_wp2
      refine ⟨(KeepsOthers.setCell _ _ _).from _, kp_set i1 (.inl rfl) _, ⟨⟨?_, i2.other (by omega) _⟩, i3.setCell (p := ⟨w.heap.size + 1 + 1, 0, none⟩) (show w.heap.size ≤ w.heap.size + 1 + 1 by omega) _⟩⟩
      rw [lastZ_snoc, if_pos hc]
      exact i1.set _
    · gi_wp2
      refine ⟨(KeepsOthers.refl _).from _, KpN.of_below (Below.refl _ _), ⟨⟨?_, i2⟩, i3⟩⟩
      rw [lastZ_snoc, if_neg (Int.not_le.2 hc)]
      exact i1
  case done =>
    rintro D ys W hD rfl ⟨⟨i1, i2⟩, i3⟩ hK
    rw [lastZ_all] at i1
    have x1 := i1.cell
    have z1 := cell_lt x1
    go_wp2_with fail
    refine ⟨by simp, .inl ⟨_, _, rfl, run_takeDeferred hK, ?_⟩⟩
    refine ⟨_, results_tmp rfl _ _ _, rfl, ?_⟩
    exact i3.trans (belowK_b (w := w) (Nat.le_refl _) W D _ _ (by omega) hK rfl rfl)
  case stop =>
    rintro D c pre W _ _ h _
    exact h.elim
end Go.Proofs.YtgnfaemnehmgcaaGreatDoor.Cal
namespace Go.Proofs.YtgnfaemnehmgcaaGreatDoor.Cal
open Go Go.RowKit Go.Shelf
theorem keeps_up {B C : Nat} {X Y : World} (h : KeepsFrom B X Y) (hBC : B ≤ C) : KeepsFrom C X Y := ⟨h.size, fun k o hk h1 h2 => h.same k o (Nat.le_trans hBC hk) h1 h2⟩
theorem keeps_put (W : World) (l : Nat) (o' : Obj) : KeepsFrom (l + 1) W (W.putObj l o') := ⟨by simp, fun _ _ _ h1 _ => (World.putObj_heap_other (by omega)).trans h1⟩
theorem keeps_below {B : Nat} {X Y : World} (h : Below X.heap.size X Y) : KeepsFrom B X Y := ⟨h.size, fun _ _ _ h1 _ => heap_below h h1⟩
def SeqAd {α : Type} (n : Nat) (P : Program) (gf : Nat) (lb : Array Value) (encs : α → Array Value) (Kp : Nat → World → World → Prop) (all : List α) (N : Nat) (w : World) : Prop :=
  ∀ (l : Nat) (J : List α → World → Prop) (W : World), Below w.heap.size w W → l < W.heap.size → OwnFrom W.heap.size J →
    (∀ pre x W1, J pre W1 → pre.length < N → YieldAt Fence.wide (n - 1) P l (encs x) W1 fun e W' => e = .returned (.bool true) ∧ J (pre ++ [x]) W' ∧ Kp l W1 W') →
    J [] W → CallsIn Fence.wide n P gf (#[.func (.yield l) #[] #[]] ++ lb) W fun e W' => (∃ v, e = .returned v) ∧ J all W'
def goesOn (R : World → Prop) : Exit → Act → World → Prop
  | .normal, _, W' => R W'
  | _, _, _ => False
theorem range_ad {α : Type} {P : Program} {g : Operand} {ps : Array Tmp} {assign body : Code} {Q : Exit → Act → World → Prop} {a : Act} {w : World} {n : Nat} (h1 : 1 ≤ n)
    {gf : Nat} {lb : Array Value} (hg : a.eval g = .func (.func gf) #[] lb) (eg : ∀ args w, (callFunc gf args).run P w = .ok (.enter gf args) w)
    {encs : α → Array Value} {Kq : World → World → Prop} {all : List α} {N : Nat} (hseq : SeqAd (n - 1) P gf lb encs (fun l X Y => Kq X Y ∧ KeepsFrom (l + 1) X Y) all N w)
    (hKt : ∀ {A B C : World}, Kq A B → Kq B C → Kq A C) (hKb : ∀ (W : World) (l : Nat) (o o' : Obj), w.heap.size ≤ l → W.heap[l]? = some o → o.isCells = false → Kq W (W.putObj l o')) (hps : ∀ x, (encs x).size = ps.size)
    (I : List α → World → Prop) (hI : OwnFrom w.heap.size I) (h0 : I [] w) (Ax : α → Act → World → Prop) (hAx : ∀ x a', OwnFrom w.heap.size (fun (_ : Unit) W => Ax x a' W))
    (hassign : ∀ (l : Nat) (pre : List α) (x : α) (W : World) (K : Act → World → Prop), I pre W → (∀ a' W', KeepsFrom w.heap.size W W' → Kq W W' → I pre W' → Ax x a' W' → K a' W') →
      assign.wpIn (Fence.wide.inRound l) (n - 1 - 1) P (Exit.then K (fun _ _ _ => False)) { tmps := (ps.zip (encs x)).foldl (fun t (p, v) => t.setIfInBounds p v) a.tmps, defers := [] } W)
    (hbody : ∀ (l : Nat) (pre : List α) (x : α) (a' : Act) (W : World), I pre W → Ax x a' W → pre.length < N →
      body.wpIn (Fence.wide.inRound l) (n - 1 - 1) P (goesOn fun W' => KeepsFrom w.heap.size W W' ∧ Kq W W' ∧ I (pre ++ [x]) W') a' W)
    (hdone : ∀ (D : Nat) (W : World), w.heap.size ≤ D → I all W → W.heap[D]? = some (.deferred (some [])) → Q .normal { a with defers := { target := .collected D, args := #[] } :: a.defers } W) :
    (Code.rangeFunc g ps assign body).wpIn Fence.wide n P Q a w := by
  refine wpIn_rangeFunc (fun fn hfn => ?_)
  let r0 : Loop := { state := .ready, pending := none, fn := fn, tmps := a.tmps, params := ps, assign := assign, body := body, defers := w.heap.size }
  have hs1 : ((w.alloc (.deferred (some []))).alloc (.loop r0)).heap.size = w.heap.size + 2 := by simp
  have hl1 : ((w.alloc (.deferred (some []))).alloc (.loop r0)).heap[w.heap.size + 1]? = some (.loop r0) := by
    have := World.alloc_heap_new (w.alloc (.deferred (some []))) (.loop r0)
    rwa [World.size_alloc] at this
  have hd1 : ((w.alloc (.deferred (some []))).alloc (.loop r0)).heap[w.heap.size]? = some (.deferred (some [])) :=
    heap_below (below_alloc (Below.refl _ _) _) (World.alloc_heap_new w _)
  have hi1 : I [] ((w.alloc (.deferred (some []))).alloc (.loop r0)) := hI.alloc _ (hI.alloc _ h0)
  have hb1 : Below w.heap.size w ((w.alloc (.deferred (some []))).alloc (.loop r0)) := below_alloc (below_alloc (Below.refl _ _) _) _
  have hrun := run_enterLoop_outer (P := P) (w := w) fn a.tmps ps assign body
  refine ⟨w.heap.size + 1, [{ target := .collected w.heap.size, args := #[] }], (w.alloc (.deferred (some []))).alloc (.loop r0), { target := .fn (.func gf) lb, args := #[.func (.yield (w.heap.size + 1)) #[] #[]] },
    (w.alloc (.deferred (some []))).alloc (.loop r0), gf, #[.func (.yield (w.heap.size + 1)) #[] #[]] ++ lb, (w.alloc (.deferred (some []))).alloc (.loop r0), hrun, ?_, ?_, ?_, fun _ => h1, ?_⟩
  · simp only [resolve, hg]
    simp [go_sem]
  · intro f' _; trivial
  · simp [invoke, go_sem, eg]
  generalize (w.alloc (.deferred (some []))).alloc (.loop r0) = W1 at *
  refine (hseq (w.heap.size + 1) (fun pre W => I pre W ∧ W.heap[w.heap.size + 1]? = some (.loop r0) ∧ W.heap[w.heap.size]? = some (.deferred (some []))) W1 hb1 (by omega) ?_ ?_ ⟨hi1, hl1, hd1⟩).mono ?_
  · intro s X Y row hs hg' hr
    have hne : ∀ k, k < W1.heap.size → some k ≠ row := fun k hk e => by
      have := (hr k e.symm).1
      omega
    refine ⟨hI s X Y row hs.1 hg' (fun r e => ⟨by have := (hr r e).1; omega, (hr r e).2⟩), ?_, ?_⟩
    · exact (hg'.block _ (Array.getElem?_eq_some_iff.1 hs.2.1).1 (hne _ (by omega))).trans hs.2.1
    · exact (hg'.block _ (Array.getElem?_eq_some_iff.1 hs.2.2).1 (hne _ (by omega))).trans hs.2.2
  · rintro pre x W ⟨hi, hl, hd⟩ hlen
    have hy := run_yield (P := P) (args := encs x) hl (hps x)
    refine ⟨fn, _, assign, body, hy, roundIn_of_wpIn hfn (hassign _ pre x W _ hi ?_)⟩
    intro a' Wa hkf hkq hia hax
    have hla := hkf.same _ _ (by omega) hl rfl
    have hda := hkf.same _ _ (Nat.le_refl _) hd rfl
    have hlt := (Array.getElem?_eq_some_iff.1 hla).1
    refine ⟨_, run_beginRound hla rfl, ?_⟩
    have hlb : (Wa.putObj (w.heap.size + 1) (.loop { r0 with state := .busy })).heap[w.heap.size + 1]? = some (.loop { r0 with state := .busy }) := World.putObj_heap_same hlt
    have hdb : (Wa.putObj (w.heap.size + 1) (.loop { r0 with state := .busy })).heap[w.heap.size]? = some (.deferred (some [])) := (World.putObj_heap_other (by omega)).trans hda
    have hqb : Kq Wa (Wa.putObj (w.heap.size + 1) (.loop { r0 with state := .busy })) := hKb _ _ _ _ (by omega) hla rfl
    have hib := hI.putObj (.loop { r0 with state := .busy }) hia (by omega) hla rfl
    have hab := (hAx x a').putObj (s := ()) (.loop { r0 with state := .busy }) hax (by omega) hla rfl
    have hkb := keeps_put Wa (w.heap.size + 1) (.loop { r0 with state := .busy })
    refine wpIn_mono (hbody _ pre x a' _ hib hab hlen) ?_
    intro e a3 W3 hp
    cases e with
    | normal =>
      obtain ⟨hk3, hq3, hi3⟩ := hp
      have hl3 := hk3.same _ _ (by omega) hlb rfl
      have hd3 := hk3.same _ _ (Nat.le_refl _) hdb rfl
      have hlt3 := (Array.getElem?_eq_some_iff.1 hl3).1
      refine ⟨_, _, run_endRound none hl3, rfl, ⟨hI.putObj _ hi3 (by omega) hl3 rfl, World.putObj_heap_same hlt3, (World.putObj_heap_other (by omega)).trans hd3⟩, ?_, ?_⟩
      · exact hKt hkq (hKt hqb (hKt hq3 (hKb _ _ _ _ (by omega) hl3 rfl)))
      · exact (keeps_up hkf (by omega)).trans (hkb.trans ((keeps_up hk3 (by omega)).trans (keeps_put W3 (w.heap.size + 1) _)))
    | ret => exact hp.elim
    | exit id => exact hp.elim
    | goto t => exact hp.elim
    | panic ch => exact hp.elim
    | outgrown => exact hp.elim
  · rintro e W2 ⟨⟨v, rfl⟩, hi, hl, hd⟩
    refine ⟨none, _, run_endLoop hl (by simp [r0]), ?_⟩
    exact hdone _ _ (Nat.le_refl _) (hI.putObj _ hi (by omega) hl rfl) ((World.putObj_heap_other (by omega)).trans hd)
end Go.Proofs.YtgnfaemnehmgcaaGreatDoor.Cal
