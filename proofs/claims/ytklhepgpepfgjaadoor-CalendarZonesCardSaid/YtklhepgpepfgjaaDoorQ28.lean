/- Layer 9 (calendar): the iterator over the offsets of a zone. -/
import Derived.Test.YtklhepgpepfgjaaDoorQ27
import Derived.RangeFuncNested
import Derived.RangeFuncBound
import Derived.RangeFuncCalls
import Derived.RangeFuncLeaves
import Derived.Shelf.Abstract
import Derived.Shelf.RegionOpen
import Derived.WalkKit
import Derived.OwnWalkIn
import Derived.TacticsInMore
import Derived.LoopNIn
import Derived.LoopIn
namespace Go.Proofs.YtklhepgpepfgjaaDoor.Cal
open Go Go.RowKit Go.Shelf
attribute [local go_sem] Oper.semAt_some
/-- what the iterator gives: the number of an interval -/
def Kx (q : Nat) : Type := { k : Nat // k ≤ q }
def kx (q k : Nat) (h : k ≤ q) : Kx q := ⟨k, h⟩
def kxL (q : Nat) : (k : Nat) → k ≤ q + 1 → List (Kx q)
  | 0, _ => []
  | k + 1, h => kxL q k (Nat.le_of_succ_le h) ++ [kx q k (Nat.le_of_succ_le_succ h)]
theorem kxL_len (q : Nat) : ∀ k h, (kxL q k h).length = k
  | 0, _ => rfl
  | k + 1, h => by simp [kxL, kxL_len q k]
theorem kxL_prefix (q : Nat) {k : Nat} (h : k ≤ q + 1) : ∀ {n : Nat} (hn : n ≤ q + 1), k ≤ n → kxL q k h <+: kxL q n hn
  | 0, _, hk => by obtain rfl : k = 0 := by omega
                   exact List.prefix_refl _
  | n + 1, hn, hk => by
    by_cases e : k = n + 1
    · subst e; exact List.prefix_refl _
    · refine (kxL_prefix q h (Nat.le_of_succ_le hn) (by omega)).trans ?_
      exact List.prefix_append _ _
def encZ (o : Int) (q : Nat) (g : Nat → Int × Int) (d : Kx q) : Array Value := #[.int .i64 (offK o g d.1), .agg #[.int .i64 (fromK g d.1), .int .i64 (hiK q g d.1)]]
/-- what a round keeps: all that lies below N, but block B; and all cells that are no numbers and no lists of numbers -/
structure KpN (N B : Nat) (X Y : World) : Prop where
  size : X.heap.size ≤ Y.heap.size
  low : ∀ (k : Nat) (o : Obj), k < N → k ≠ B → X.heap[k]? = some o → Y.heap[k]? = some o
  typ : ∀ (k : Nat) (a : Array Value) (t : TypeId), t ≠ 3 → t ≠ 44 → X.heap[k]? = some (Obj.cells a t) → Y.heap[k]? = some (Obj.cells a t)
theorem KpN.trans {N B : Nat} {X Y Z : World} (h : KpN N B X Y) (k : KpN N B Y Z) : KpN N B X Z :=
  ⟨Nat.le_trans h.size k.size, fun i o h1 h2 h3 => k.low i o h1 h2 (h.low i o h1 h2 h3), fun i a t h1 h2 h3 => k.typ i a t h1 h2 (h.typ i a t h1 h2 h3)⟩
theorem KpN.of_below {N B : Nat} {X Y : World} (h : Below X.heap.size X Y) : KpN N B X Y :=
  ⟨h.size, fun k o _ _ hk => by
    rw [h.block k (Array.getElem?_eq_some_iff.1 hk).1]; exact hk, fun k a t _ _ hk => by
    rw [h.block k (Array.getElem?_eq_some_iff.1 hk).1]; exact hk⟩
theorem KpN.putObj {N B : Nat} {m : Nat} (hm : N ≤ m) (W : World) (l : Nat) (o o' : Obj) (hl : m ≤ l) (h : W.heap[l]? = some o) (hc : o.isCells = false) : KpN N B W (W.putObj l o') :=
  ⟨by simp, fun k ob h1 _ hk => (World.putObj_heap_other (by omega)).trans hk, fun k a t _ _ hk => by
    by_cases e : k = l
    · subst e; rw [h] at hk; cases hk; cases hc
    · exact (World.putObj_heap_other e).trans hk⟩
theorem KpN.cell {N B : Nat} {X Y : World} (h : KpN N B X Y) {b o : Nat} (h1 : b < N) (h2 : b ≠ B) {v : Value} (hc : X.cell? ⟨b, o, none⟩ = some v) : Y.cell? ⟨b, o, none⟩ = some v := by
  have hl := cell_lt hc
  obtain ⟨ob, hob⟩ : ∃ ob, X.heap[b]? = some ob := ⟨_, Array.getElem?_eq_getElem hl⟩
  rw [← hc]
  exact World.cell?_of_block (a := ⟨b, o, none⟩) ((h.low b ob h1 h2 hob).trans hob.symm)
theorem KpN.cellT {N B : Nat} {X Y : World} (h : KpN N B X Y) {b : Nat} {a : Array Value} {t : TypeId} (h1 : t ≠ 3) (h2 : t ≠ 44) (hb : X.heap[b]? = some (Obj.cells a t)) (o : Nat) : Y.cell? ⟨b, o, none⟩ = X.cell? ⟨b, o, none⟩ :=
  World.cell?_of_block (a := ⟨b, o, none⟩) ((h.typ b a t h1 h2 hb).trans hb.symm)
theorem heap_below {X Y : World} {b : Nat} {o : Obj} (h : Below X.heap.size X Y) (hb : X.heap[b]? = some o) : Y.heap[b]? = some o := by
  rw [h.block b (Array.getElem?_eq_some_iff.1 hb).1]; exact hb
theorem gbw {A B : World} (h : Below A.heap.size A B) : A.grownBy B none := ⟨h.os, h.tape, h.output, h.size, fun k hk _ => h.block k hk⟩
/-- where the changes of a zone lie: below N, not in block B -/
def LowIn (N B q : Nat) (p : Option Addr) : Prop := q = 0 ∨ ∃ b o, p = some ⟨b, o, none⟩ ∧ b < N ∧ b ≠ B
theorem KpN.lp {N B : Nat} {X Y : World} (h : KpN N B X Y) {g : Nat → Int × Int} {q : Nat} {p : Option Addr} (hl : LpIn X g q p) (hp : LowIn N B q p) : LpIn Y g q p := by
  rcases hl with h0 | ⟨b, o, hpe, hi⟩
  · exact .inl h0
  · rcases hp with h0 | ⟨b', o', e, h1, h2⟩
    · exact .inl h0
    · rw [hpe] at e
      cases e
      exact .inr ⟨b, o, hpe, fun i hi' => ⟨h.cell h1 h2 (hi i hi').1, h.cell h1 h2 (hi i hi').2⟩⟩
/-- what the iterator reads: the zone in its box, and its changes -/
structure ZAt (W : World) (Bl : Nat) (o : Int) (g : Nat → Int × Int) (q c : Nat) (p : Option Addr) : Prop where
  box : W.heap[Bl]? = some (.cells #[.int .i64 o, .slice p q c] 27)
  lp : LpIn W g q p
theorem zone_nint : 27 ≠ 3 := by decide
theorem zone_nlist : 27 ≠ 44 := by decide
theorem chg_nint : 58 ≠ 3 := by decide
theorem chg_nlist : 58 ≠ 44 := by decide
theorem ZAt.kept {X Y : World} {N B Bl : Nat} {o : Int} {g : Nat → Int × Int} {q c : Nat} {p : Option Addr} (h : ZAt X Bl o g q c p) (hk : KpN N B X Y) (hp : LowIn N B q p) : ZAt Y Bl o g q c p := ⟨hk.typ _ _ _ zone_nint zone_nlist h.box, hk.lp h.lp hp⟩
theorem ZAt.below {X Y : World} {Bl : Nat} {o : Int} {g : Nat → Int × Int} {q c : Nat} {p : Option Addr} (h : ZAt X Bl o g q c p) (hb : Below X.heap.size X Y) : ZAt Y Bl o g q c p := ⟨heap_below hb h.box, h.lp.below hb⟩
theorem ZAt.cells {X : World} {Bl : Nat} {o : Int} {g : Nat → Int × Int} {q c : Nat} {p : Option Addr} (h : ZAt X Bl o g q c p) : ZBox X Bl o q c p := by
  have hb := h.box
  constructor <;> simp [World.cell?, hb]
set_option maxRecDepth 100000 in
set_option maxHeartbeats 2000000 in
theorem offs1_in (n lp Bl N B : Nat) (o : Int) (q c : Nat) (p : Option Addr) (g : Nat → Int × Int) (hz : ZoneOk o q g) (hgt : ∀ i, i < q → (g i).1 ≤ 9223372036854775807) (hlow : LowIn N B q p) (hn : 1 ≤ n) (J Jx : List (Kx q) → World → Prop) (W : World)
    (hY : ∀ pre d W1, J pre W1 → pre.length < q + 1 → YieldAt Fence.wide (n - 1) Tryd.prog lp (encZ o q g d) W1 fun e W' =>
      (e = .returned (.bool true) ∧ J (pre ++ [d]) W' ∧ KpN N B W1 W') ∨ (e = .returned (.bool false) ∧ Jx (pre ++ [d]) W'))
    (hJ : AbidesFrom W.heap.size J) (hD : ZAt W Bl o g q c p) (hJ0 : J [] W) :
    CallsIn Fence.wide n Tryd.prog 92 #[.func (.yield lp) #[] #[], .pointer (some ⟨Bl, 0, none⟩)] W fun e W' => (∃ v, e = .returned v) ∧
      ((∃ ys, ys = kxL q (q + 1) (Nat.le_refl _) ∧ J ys W') ∨ (∃ pre, pre <+: kxL q (q + 1) (Nat.le_refl _) ∧ Jx pre W')) := by
  have hro : Fence.wide.round = none := rfl
  have HJ := Lib.hid (show ∀ (s : List (Kx q)) (X Y : World), J s X → W.heap.size ≤ X.heap.size → Below X.heap.size X Y → J s Y from fun s X Y h _ hb => hJ s X Y none h (gbw hb) (fun r e => by cases e))
  have HD0 := Lib.hid hD
  obtain ⟨hc0, hc1⟩ := hD.cells
  have HZ := Lib.hid hz
  have hq := hz.q1
  clear hD hJ hz
  refine callsIn_of_wp Tryd.func92 rfl trivial ?_ hro
  simp only [Tryd.ntmps92, List.size_toArray, List.length_cons, List.length_nil, Nat.reduceAdd, Nat.reduceSub, Array.replicate_succ, Array.replicate_zero, List.push_toArray, List.append_toArray, List.nil_append, List.cons_append]
  refine wpIn_wide.2 ?_
  go_wp2
  go_region
  go_wp2
  have hb0 : Below W.heap.size W W.drew := Below.drew (Below.refl _ _)
  have hJ1 := HJ.out _ _ _ hJ0 (Nat.le_refl _) hb0
  have HD1 := Lib.hid (HD0.out.below hb0)
  have HS1 := Lib.hid hb0.size
  clear hc0 hc1 hb0 hJ0 HD0
  generalize W.drew = V at *
  refine (wpIn_wide (n := n)).1 ?_
  gi_loopw [3, 4, 6, 12] (fun s3 s4 s6 i wr => ∃ (k : Nat) (h : k ≤ q) (v6 : Value), s3 = .int .i64 (fromK g k) ∧ s4 = .int .i64 (offK o g k) ∧ s6 = v6 ∧ i = .int .i64 (k : Int) ∧ Hid (ZAt wr Bl o g q c p) ∧ Hid (W.heap.size ≤ wr.heap.size) ∧ J (kxL q k (Nat.le_succ_of_le h)) wr) (fun _ _ _ i _ => q - (intOf i).toNat)
  case atStart => exact ⟨0, Nat.zero_le _, _, rfl, rfl, rfl, rfl, HD1, HS1, hJ1⟩
  case round =>
    obtain ⟨k, hk, v6, rfl, rfl, rfl, rfl, HD, HS, hJk⟩ := hrel
    by_cases hlt : k < q
    · have hki : (k : Int) < q := by omega
      obtain ⟨b, ob, rfl, hi⟩ := HD.out.lp.resolve_left (by omega)
      obtain ⟨x0, x1⟩ := hi k hlt
      have zx := cell_lt x0
      have HK := Lib.hid hlt
      have vk : IntKind.i64.wrap ((k : Int) + 1) = (k : Int) + 1 := IntWalk.i64_in _ (by omega)
      have hgk := (HZ.out.g1 k hlt)
      have vh : IntKind.i64.wrap ((g k).1 - 1) = hiK q g k := by
        unfold hiK; rw [if_pos hlt]
        have := hgt k hlt
        exact IntWalk.i64_in _ (by omega)
      have B1 := below_alloc (Below.refl wr.heap.size wr) (.cells #[.int .i64 (g k).1, .int .i64 (g k).2] 58)
      have h1 := hY (kxL q k (Nat.le_succ_of_le hk)) (kx q k hk) _ (HJ.out _ _ _ hJk HS.out B1) (by rw [kxL_len]; omega)
      obtain ⟨fn, tmps, assign, body, hy, hR⟩ := h1
      unfold encZ at hy
      dsimp only [kx] at hy
      have c0 : (wr.alloc (.cells #[.int .i64 (g k).1, .int .i64 (g k).2] 58)).cell? ⟨wr.heap.size, 0, none⟩ = some (.int .i64 (g k).1) := by simp
      have HB1 := Lib.hid B1
      have HF := Lib.hid (show fromK g (k + 1) = (g k).1 by unfold fromK; rw [if_neg (by omega), Nat.add_sub_cancel])
      have HO := Lib.hid (show offK o g (k + 1) = (g k).2 by unfold offK; rw [if_neg (by omega), Nat.add_sub_cancel])
      clear hlt hi hgk B1
      gi_wp2
      refine hR.mono ?_
      rintro e W3 (⟨rfl, hJ3, hk3⟩ | ⟨rfl, hJx3⟩)
      · have HD3 := Lib.hid ((HD.out.below HB1.out).kept hk3 hlow)
        have HS3 := Lib.hid (Nat.le_trans (Nat.le_trans HS.out HB1.out.size) hk3.size)
        have hbx := World.alloc_heap_new wr (.cells #[.int .i64 (g k).1, .int .i64 (g k).2] 58)
        have c0' := (hk3.cellT chg_nint chg_nlist hbx 0).trans c0
        have c1' := (hk3.cellT chg_nint chg_nlist hbx 1).trans (show (wr.alloc (.cells #[.int .i64 (g k).1, .int .i64 (g k).2] 58)).cell? ⟨wr.heap.size, 1, none⟩ = some (.int .i64 (g k).2) by simp)
        have zc := cell_lt c0'
        clear hy hR hk3 hbx c0 x0 x1 zx
        gi_wp2
        refine wpIn_wide.2 ?_
        go_region
        have hb3 : Below W3.heap.size W3 W3.drew := Below.drew (Below.refl _ _)
        have hJ4 := HJ.out _ _ _ hJ3 HS3.out hb3
        have HD4 := Lib.hid (HD3.out.below hb3)
        have HS4 := Lib.hid (Nat.le_trans HS3.out hb3.size)
        clear hJ3 HD3 HS3 hb3 c0' c1' zc
        generalize W3.drew = W4 at *
        gi_wp2
        go_roundw
        case rel => exact ⟨k + 1, HK.out, _, by rw [HF.out], by rw [HO.out], rfl, by simp, HD4, HS4, hJ4⟩
        case measure => have := HK.out; simp [intOf]; omega
      · clear hy hR
        gi_wp2
        refine bodyPost_ret (results_none rfl _ _ _) rfl ?_
        exact ⟨⟨_, rfl⟩, .inr ⟨_, kxL_prefix q (k := k + 1) (by have := HK.out; omega) (Nat.le_refl _) (by have := HK.out; omega), hJx3⟩⟩
    · obtain rfl : k = q := by omega
      have hki : ¬ ((k : Int) < k) := by omega
      have h1 := hY (kxL k k (Nat.le_succ k)) (kx k k (Nat.le_refl _)) _ hJk (by rw [kxL_len]; omega)
      obtain ⟨fn, tmps, assign, body, hy, hR⟩ := h1
      unfold encZ at hy
      dsimp only [kx] at hy
      rw [show hiK k g k = 9223372036854775807 by unfold hiK; rw [if_neg (Nat.lt_irrefl k)]] at hy
      clear hlt
      gi_wp2
      refine (wpIn_wide (n := n)).1 ?_
      gi_wp2
      refine hR.mono ?_
      rintro e W3 (⟨rfl, hJ3, hk3⟩ | ⟨rfl, hJx3⟩)
      · clear hy hR
        gi_wp2
        go_end0
        exact ⟨⟨_, rfl⟩, .inl ⟨_, rfl, hJ3⟩⟩
      · clear hy hR
        gi_wp2
        go_end0
        exact ⟨⟨_, rfl⟩, .inr ⟨_, List.prefix_refl _, hJx3⟩⟩
theorem offs1_stops (n Bl N B : Nat) (o : Int) (q c : Nat) (p : Option Addr) (g : Nat → Int × Int) (hz : ZoneOk o q g) (hgt : ∀ i, i < q → (g i).1 ≤ 9223372036854775807) (hlow : LowIn N B q p) (hn : 1 ≤ n) (w : World) (hD : ZAt w Bl o g q c p) :
    SeqStopsK Fence.wide n Tryd.prog 92 #[.pointer (some ⟨Bl, 0, none⟩)] (encZ o q g) (KpN N B)
      (fun ys => ys = kxL q (q + 1) (Nat.le_refl _)) (fun pre => pre <+: kxL q (q + 1) (Nat.le_refl _)) (q + 1) w := by
  intro lp J Jx W hW hJ _ hY hJ0
  exact offs1_in n lp Bl N B o q c p g hz hgt hlow hn J Jx W hY hJ (hD.below hW) hJ0
/-- the iterator is made -/
theorem offsets_any (o : Int) (q c : Nat) (p : Option Addr) (w : World) :
    Calls Tryd.prog 76 #[.agg #[.int .i64 o, .slice p q c]] w fun e w' => e = .returned (.func (.func 92) #[] #[.pointer (some ⟨w.heap.size, 0, none⟩)]) ∧ w.alloc (.cells #[.int .i64 o, .slice p q c] 27) = w' := by
  go_enter Tryd.func76, Tryd.ntmps76
  go_wp2_with fail
  go_ret
  exact ⟨rfl, rfl⟩
end Go.Proofs.YtklhepgpepfgjaaDoor.Cal
