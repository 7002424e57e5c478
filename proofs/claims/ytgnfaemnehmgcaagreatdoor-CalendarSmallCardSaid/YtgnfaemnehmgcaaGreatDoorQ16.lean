/-  ·  ·  -/
import Derived.RangeFuncBox
import Derived.Test.YtgnfaemnehmgcaaGreatDoorQ08
import Derived.Test.YtgnfaemnehmgcaaGreatDoorQ15
import Derived.Test.YtgnfaemnehmgcaaGreatDoorQ05
namespace Go.Proofs.YtgnfaemnehmgcaaGreatDoor.Cal
open Go Go.RowKit
attribute [local go_sem] Oper.semAt_some
theorem own_set {w : World} {b s n : Nat} {e : TypeId} {v : Value} {xs : List Value} {p : Addr} (h : w.ownsRow b e s v n xs) (u : Value) (hne : v.ownBlock ≠ some p.block) : (w.setCell p u).ownsRow b e s v n xs := by
  refine ⟨h.1, ?_⟩
  rcases h.2 with hn | ⟨g, cap, cur, rfl, hbg, hg, rest⟩
  · exact .inl hn
  · refine .inr ⟨g, cap, cur, rfl, hbg, (Below.heap_setCell w p u g (fun he => ?_)).trans hg, rest⟩
    subst he
    exact hne rfl
theorem two_new (w : World) (x y : Value) (t : TypeId) : ∀ j u, [x, y][j]? = some u → (w.alloc (.cells #[x, y] t)).cell? ((⟨w.heap.size, 0, none⟩ : Addr).add j) = some u := by
  intro j u hj
  match j, hj with
  | 0, hj => simp at hj; subst hj; simp [Addr.add]
  | 1, hj => simp at hj; subst hj; simp [Addr.add]
theorem farC {X : World} {a o a' o' : Nat} {x v : Value} (hne : a ≠ a') (h : X.cell? ⟨a, o, none⟩ = some x) : (X.setCell ⟨a', o', none⟩ v).cell? ⟨a, o, none⟩ = some x := by
  rw [World.cell?_setCell_far _ _ _ _ (Ne.symm hne)]; exact h
theorem LpIn.set {X : World} {f : Nat → Int × Int} {n a i : Nat} {q : Option Addr} {v : Value} (h : LpIn X f n q) (hne : ∀ b o, q = some ⟨b, o, none⟩ → b ≠ a) : LpIn (X.setCell ⟨a, i, none⟩ v) f n q := by
  rcases h with h | ⟨b, o, e, hi⟩
  · exact .inl h
  · exact .inr ⟨b, o, e, fun j hj => ⟨farC (hne b o e) (hi j hj).1, farC (hne b o e) (hi j hj).2⟩⟩
theorem own_geS {w : World} {b s : Nat} {e : TypeId} {v : Value} {n k : Nat} {xs : List Value} (h : w.ownsRow b e s v n xs) (hk : v.ownBlock = some k) : b ≤ k := by
  rcases h.2 with ⟨rfl, _⟩ | ⟨g, cap, cur, rfl, hg, _⟩
  · cases hk
  · obtain rfl : g = k := by simpa [Value.ownBlock] using hk
    exact hg
theorem grownO_cell {w w' : World} {b o : Nat} {v : Value} {r : Option Nat} (hg : w.grownBy w' r) (hc : w.cell? ⟨b, o, none⟩ = some v) (hne : some b ≠ r) : w'.cell? ⟨b, o, none⟩ = some v :=
  (World.cell?_of_block (w := w) (a := ⟨b, o, none⟩) (hg.block b (cell_lt hc) hne)).trans hc
theorem grownO_frozen {w w' : World} {b o : Nat} {r : Option Nat} (hg : w.grownBy w' r) (hb : b < w.heap.size) (hne : some b ≠ r) (hf : w.frozen? ⟨b, o, none⟩ = false) : w'.frozen? ⟨b, o, none⟩ = false := by
  have := hg.block b hb hne
  unfold World.frozen? at *
  simp only [this] at *
  exact hf
structure Res3 (w : World) (a : Nat) : Prop where
  r0 : ∃ v, w.cell? ⟨a, 0, none⟩ = some v
  r1 : ∃ v, w.cell? ⟨a, 1, none⟩ = some v
  r2 : ∃ v, w.cell? ⟨a, 2, none⟩ = some v
  z : ∀ i, w.frozen? ⟨a, i, none⟩ = false
theorem Res3.lt {w : World} {a : Nat} (h : Res3 w a) : a < w.heap.size := let ⟨_, e⟩ := h.r0; cell_lt e
theorem Res3.new (w : World) (v0 v1 v2 : Value) (t : TypeId) : Res3 (w.alloc (.cells #[v0, v1, v2] t)) w.heap.size := ⟨⟨v0, by simp⟩, ⟨v1, by simp⟩, ⟨v2, by simp⟩, fun i => by simp⟩
theorem Res3.below {w w' : World} {a : Nat} (h : Res3 w a) (hb : Below w.heap.size w w') : Res3 w' a :=
  ⟨h.r0.imp fun _ e => cell_below hb e, h.r1.imp fun _ e => cell_below hb e, h.r2.imp fun _ e => cell_below hb e, fun i => (hb.frozen (p := ⟨a, i, none⟩) h.lt).trans (h.z i)⟩
theorem Res3.grown {w w' : World} {a : Nat} {r : Option Nat} (h : Res3 w a) (hg : w.grownBy w' r) (hne : some a ≠ r) : Res3 w' a :=
  ⟨h.r0.imp fun _ e => grownO_cell hg e hne, h.r1.imp fun _ e => grownO_cell hg e hne, h.r2.imp fun _ e => grownO_cell hg e hne, fun i => grownO_frozen hg h.lt hne (h.z i)⟩
end Go.Proofs.YtgnfaemnehmgcaaGreatDoor.Cal
namespace Go.Proofs.YtgnfaemnehmgcaaGreatDoor.Cal
open Go Go.RowKit
attribute [local go_sem] Oper.semAt_some
def orF (f : Nat → Int) : Nat → Int
  | 0 => 0
  | k + 1 => if orF f k = 0 then f k else orF f k
theorem orF_stop {f : Nat → Int} {k : Nat} (h : orF f k = 0) (hk : f k ≠ 0) : ∀ n, k < n → orF f n = f k := by
  intro n
  induction n with
  | zero => intro h; omega
  | succ n ih =>
    intro hn
    by_cases e : k = n
    · subst e; rw [orF, if_pos h]
    · have hi := ih (by omega)
      rw [orF, if_neg (by rw [hi]; exact hk), hi]
set_option maxHeartbeats 1000000 in
theorem or_any (f : Nat → Int) (n c : Nat) (p : Option Addr) (w : World) (hn : n ≤ 1000000000) (hs : FnIn w f n p) :
    Calls Tryz.prog 71 #[.slice p n c] w fun e w' => e = .returned (.int .i64 (orF f n)) ∧ Below w.heap.size w w' := by
  have H1 := Lib.hid hs
  clear hs
  go_enter Tryz.func71, Tryz.ntmps71
  go_wp2_with fail
  go_loopw [2, 5, 8] (fun s2 s5 s8 wr => ∃ (k : Nat) (v5 : Value), k ≤ n ∧ s2 = .int .i64 0 ∧ s5 = v5 ∧ s8 = .int .i64 (k : Int) ∧ Hid (orF f k = 0) ∧ Hid (Below w.heap.size w wr)) (fun _ _ s _ => n - (intOf s).toNat)
  case atStart => exact ⟨0, _, Nat.zero_le _, rfl, rfl, rfl, Lib.hid rfl, Lib.hid (Below.refl _ _)⟩
  case round =>
    obtain ⟨k, v5, hk, rfl, rfl, rfl, HO, HB⟩ := hrel
    by_cases hlt : k < n
    · have hki : (k : Int) < n := by omega
      have vk : IntKind.i64.wrap ((k : Int) + 1) = (k : Int) + 1 := IntWalk.i64_in _ (by omega)
      obtain ⟨b1, o1, rfl, hi1⟩ := H1.out.resolve_left (by omega)
      have x1 := cell_below HB.out (hi1 k hlt)
      have z1 := cell_lt x1
      have HST := Lib.hid (fun h => orF_stop (f := f) HO.out h n hlt)
      have HNX := Lib.hid (show f k = 0 → orF f (k + 1) = 0 from fun h => by rw [orF, if_pos HO.out]; exact h)
      have HK := Lib.hid hlt
      clear hlt hi1
      generalize f k = a at *
      by_cases h0 : a = 0
      · subst h0
        go_wp2_with fail
        go_roundw
        case rel => exact ⟨k + 1, _, HK.out, rfl, rfl, by simp, Lib.hid (HNX.out rfl), HB⟩
        case measure => have := HK.out; simp [intOf]; omega
      · have h0b : (a == 0) = false := by simpa using h0
        have HV := Lib.hid (HST.out h0)
        go_wp2_with fail
        go_ret
        exact ⟨by rw [HV.out]; rfl, HB.out⟩
    · obtain rfl : k = n := by omega
      have hki : ¬ ((k : Int) < k) := by omega
      clear hlt
      go_wp2_with fail
      go_ret
      exact ⟨by rw [HO.out]; rfl, HB.out⟩
def eqF (f g : Nat → Int × Int) : Nat → Bool
  | 0 => true
  | k + 1 => eqF f g k && (decide ((f k).1 = (g k).1) && decide ((f k).2 = (g k).2))
theorem eqF_stop {f g : Nat → Int × Int} {k : Nat} (h : (decide ((f k).1 = (g k).1) && decide ((f k).2 = (g k).2)) = false) : ∀ n, k < n → eqF f g n = false := by
  intro n
  induction n with
  | zero => intro h; omega
  | succ n ih =>
    intro hn
    by_cases e : k = n
    · subst e; rw [eqF, h, Bool.and_false]
    · rw [eqF, ih (by omega), Bool.false_and]
set_option maxHeartbeats 1000000 in
theorem equalL_any (f g : Nat → Int × Int) (n c1 c2 : Nat) (p q : Option Addr) (w : World) (hn : n ≤ 1000000000) (h1 : LpIn w f n p) (h2 : LpIn w g n q) :
    Calls Tryz.prog 72 #[.slice p n c1, .slice q n c2] w fun e w' => e = .returned (.bool (eqF f g n)) ∧ Below w.heap.size w w' := by
  have H1 := Lib.hid h1
  have H2 := Lib.hid h2
  clear h1 h2
  go_enter Tryz.func72, Tryz.ntmps72
  go_wp2_with fail
  go_loopw [4, 5, 13] (fun s4 s5 s13 wr => ∃ (k : Nat) (v5 : Value), k ≤ n ∧ s4 = .bool false ∧ s5 = v5 ∧ s13 = .int .i64 (k : Int) ∧ Hid (eqF f g k = true) ∧ Hid (Below w.heap.size w wr)) (fun _ _ s _ => n - (intOf s).toNat)
  case atStart => exact ⟨0, _, Nat.zero_le _, rfl, rfl, rfl, Lib.hid rfl, Lib.hid (Below.refl _ _)⟩
  case round =>
    obtain ⟨k, v5, hk, rfl, rfl, rfl, HO, HB⟩ := hrel
    by_cases hlt : k < n
    · have hki : (k : Int) < n := by omega
      have vk : IntKind.i64.wrap ((k : Int) + 1) = (k : Int) + 1 := IntWalk.i64_in _ (by omega)
      obtain ⟨b1, o1, rfl, hi1⟩ := H1.out.resolve_left (by omega)
      obtain ⟨b2, o2, rfl, hi2⟩ := H2.out.resolve_left (by omega)
      obtain ⟨x1, x2⟩ := (hi1.below HB.out) k hlt
      obtain ⟨y1, y2⟩ := (hi2.below HB.out) k hlt
      have z1 := cell_lt x1
      have z2 := cell_lt y1
      have HST := Lib.hid (fun h => eqF_stop (f := f) (g := g) (k := k) h n hlt)
      have HNX := Lib.hid (show (decide ((f k).1 = (g k).1) && decide ((f k).2 = (g k).2)) = true → eqF f g (k + 1) = true from fun h => by rw [eqF, HO.out, h]; rfl)
      have HK := Lib.hid hlt
      clear hlt hi1 hi2
      generalize (f k).1 = dk at *
      generalize (f k).2 = sk at *
      generalize (g k).1 = ek at *
      generalize (g k).2 = tk at *
      by_cases e1 : dk = ek
      · by_cases e2 : sk = tk
        · subst e1
          subst e2
          go_wp2_with fail
          go_quiet (fail)
          go_wp2_with fail
          go_roundw
          case rel => exact ⟨k + 1, _, HK.out, rfl, rfl, by simp, Lib.hid (HNX.out (by simp)), Lib.hid (below_drewN HB.out _)⟩
          case measure => have := HK.out; simp [intOf]; omega
        · subst e1
          have e2b : (sk == tk) = false := by simpa using e2
          have HV := Lib.hid (HST.out (by simp [e2]))
          go_wp2_with fail
          go_quiet (fail)
          go_wp2_with fail
          go_ret
          exact ⟨by rw [HV.out]; rfl, below_drewN HB.out _⟩
      · have e1b : (dk == ek) = false := by simpa using e1
        have HV := Lib.hid (HST.out (by simp [e1]))
        go_wp2_with fail
        go_quiet (fail)
        go_wp2_with fail
        go_ret
        exact ⟨by rw [HV.out]; rfl, below_drewN HB.out _⟩
    · obtain rfl : k = n := by omega
      have hki : ¬ ((k : Int) < k) := by omega
      clear hlt
      go_wp2_with fail
      go_ret
      exact ⟨by rw [HO.out]; rfl, HB.out⟩
theorem before_at (b u d : Int) (n c k : Nat) (p : Option Addr) (f : Nat → Int × Int) (w : World) (hs : LpIn w f n p) (hn : n ≤ 1000) (hc : n ≤ c) (hcm : c ≤ maxLen) (hk : k ≤ n) (h1 : ∀ j, j < k → (f j).1 < d) (h2 : k < n → d ≤ (f k).1) :
    Calls Tryz.prog 73 #[.agg #[.int .i64 b, .slice p n c, .int .i64 u], .int .i64 d] w fun e w' => e = .returned (.slice p k c) ∧ Below w.heap.size w w' := by
  refine (before_any b u d n c p f w hs hn hc hcm).mono ?_
  rintro e w' ⟨i, hi, rfl, g1, g2, hb⟩
  obtain rfl : i = k := by
    rcases Nat.lt_trichotomy i k with h | h | h
    · have := h1 i h; have := g2 (by omega); omega
    · exact h
    · have := g1 k h; have := h2 (by omega); omega
  exact ⟨rfl, hb⟩
end Go.Proofs.YtgnfaemnehmgcaaGreatDoor.Cal
namespace Go.Proofs.YtgnfaemnehmgcaaGreatDoor.Cal
open Go Go.RowKit
attribute [local go_sem] Oper.semAt_some
def ChkIn (W : World) (v : Value) (r : Int) : Prop := ∀ X, Below W.heap.size W X → Calls Tryz.prog 33 #[v] X fun e w' => e = .returned (.int .i64 r) ∧ Below W.heap.size W w'
structure ExtB (W : World) (a : Nat) (b1 u1 : Int) (n1 c1 : Nat) (p1 : Option Addr) (b2 u2 : Int) (n2 c2 : Nat) (p2 : Option Addr) : Prop where
  ta : TBox W a b1 u1 n1 c1 p1
  tb : TBox W (a + 1) b2 u2 n2 c2 p2
  bz : ∀ i, W.frozen? ⟨a + 1, i, none⟩ = false
  r : Res3 W (a + 1 + 1)
theorem ExtB.below {W X : World} {a : Nat} {b1 u1 : Int} {n1 c1 : Nat} {p1 : Option Addr} {b2 u2 : Int} {n2 c2 : Nat} {p2 : Option Addr} (h : ExtB W a b1 u1 n1 c1 p1 b2 u2 n2 c2 p2) (hb : Below W.heap.size W X) : ExtB X a b1 u1 n1 c1 p1 b2 u2 n2 c2 p2 :=
  ⟨h.ta.below hb, h.tb.below hb, fun i => (hb.frozen (p := ⟨a + 1, i, none⟩) (cell_lt h.tb.c0)).trans (h.bz i), h.r.below hb⟩
theorem ExtB.new (w : World) (b1 u1 : Int) (n1 c1 : Nat) (p1 : Option Addr) (b2 u2 : Int) (n2 c2 : Nat) (p2 : Option Addr) :
    ExtB (((w.alloc (.cells #[.int .i64 b1, .slice p1 n1 c1, .int .i64 u1] 24)).alloc (.cells #[.int .i64 b2, .slice p2 n2 c2, .int .i64 u2] 24)).alloc (.cells #[.int .i64 0, .slice none 0 0, .int .i64 0] 24)) w.heap.size b1 u1 n1 c1 p1 b2 u2 n2 c2 p2 := by
  have t1 := TBox.new w b1 u1 n1 c1 p1 24
  have b2' := below_alloc (Below.refl (w.alloc (.cells #[.int .i64 b1, .slice p1 n1 c1, .int .i64 u1] 24)).heap.size (w.alloc (.cells #[.int .i64 b1, .slice p1 n1 c1, .int .i64 u1] 24))) (.cells #[.int .i64 b2, .slice p2 n2 c2, .int .i64 u2] 24)
  have e1 : (w.alloc (.cells #[.int .i64 b1, .slice p1 n1 c1, .int .i64 u1] 24)).heap.size = w.heap.size + 1 := by simp
  have t2 := TBox.new (w.alloc (.cells #[.int .i64 b1, .slice p1 n1 c1, .int .i64 u1] 24)) b2 u2 n2 c2 p2 24
  have z2 : ∀ i, ((w.alloc (.cells #[.int .i64 b1, .slice p1 n1 c1, .int .i64 u1] 24)).alloc (.cells #[.int .i64 b2, .slice p2 n2 c2, .int .i64 u2] 24)).frozen? ⟨(w.alloc (.cells #[.int .i64 b1, .slice p1 n1 c1, .int .i64 u1] 24)).heap.size, i, none⟩ = false := fun i => by simp
  have t1' := t1.below b2'
  rw [e1] at t2 z2
  generalize hW : (w.alloc (.cells #[.int .i64 b1, .slice p1 n1 c1, .int .i64 u1] 24)).alloc (.cells #[.int .i64 b2, .slice p2 n2 c2, .int .i64 u2] 24) = W at *
  have e2 : W.heap.size = w.heap.size + 1 + 1 := by rw [← hW]; simp
  have b3 := below_alloc (Below.refl W.heap.size W) (.cells #[.int .i64 0, .slice none 0 0, .int .i64 0] 24)
  have r3 := Res3.new W (.int .i64 0) (.slice none 0 0) (.int .i64 0) 24
  rw [e2] at r3
  exact ⟨t1'.below b3, t2.below b3, fun i => (b3.frozen (p := ⟨w.heap.size + 1, i, none⟩) (cell_lt t2.c0)).trans (z2 i), r3⟩
theorem LpIn.less {w : World} {f : Nat → Int × Int} {n k : Nat} {p : Option Addr} (hk : k ≤ n) (h : LpIn w f n p) : LpIn w f k p := by
  rcases h with h | ⟨b, o, e, hi⟩
  · exact .inl (by omega)
  · exact .inr ⟨b, o, e, fun i hi' => hi i (by omega)⟩
theorem two_ints (w : World) (x y : Int) (t : TypeId) : FnIn (w.alloc (.cells #[.int .i64 x, .int .i64 y] t)) (fun i => if i = 0 then x else y) 2 (some ⟨w.heap.size, 0, none⟩) :=
  .inr ⟨_, _, rfl, fun i hi => by
    rcases (by omega : i = 0 ∨ i = 1) with rfl | rfl
    · simp
    · simp⟩
end Go.Proofs.YtgnfaemnehmgcaaGreatDoor.Cal
