/-  ·  ·  -/
import Derived.Test.YtgnfaemnehmgcaaGreatDoorQ36
import Derived.Test.YtgnfaemnehmgcaaGreatDoorQ37
import Derived.Test.YtgnfaemnehmgcaaGreatDoorQ15
import Derived.Test.YtgnfaemnehmgcaaGreatDoorQ35
import Derived.Test.YtgnfaemnehmgcaaGreatDoorQ31
import Derived.Test.YtgnfaemnehmgcaaGreatDoorQ17
import Derived.Test.YtgnfaemnehmgcaaGreatDoorQ25
namespace Go.Proofs.YtgnfaemnehmgcaaGreatDoor.Cal
open Go Go.RowKit
theorem eqF_all {f g : Nat → Int × Int} : ∀ n, eqF f g n = true → ∀ i, i < n → f i = g i
  | 0, _, i, hi => absurd hi (Nat.not_lt_zero i)
  | n + 1, h, i, hi => by
    rw [eqF, Bool.and_eq_true, Bool.and_eq_true, decide_eq_true_eq, decide_eq_true_eq] at h
    by_cases e : i = n
    · subst e
      exact Prod.ext h.2.1 h.2.2
    · exact eqF_all n h.1 i (by omega)
theorem eqF_of {f g : Nat → Int × Int} : ∀ n, (∀ i, i < n → f i = g i) → eqF f g n = true
  | 0, _ => rfl
  | n + 1, h => by
    rw [eqF, eqF_of n (fun i hi => h i (by omega)), h n (by omega)]
    simp
theorem first_not (g : Nat → Int × Int) (u : Int) : ∀ n : Nat, ∃ k, k ≤ n ∧ (∀ j, j < k → (g j).1 < u) ∧ (k < n → u ≤ (g k).1)
  | 0 => ⟨0, Nat.le_refl _, fun j hj => absurd hj (Nat.not_lt_zero j), fun h => absurd h (Nat.lt_irrefl 0)⟩
  | n + 1 => by
    obtain ⟨k, hk, h1, h2⟩ := first_not g u n
    by_cases e : k < n
    · exact ⟨k, by omega, h1, fun _ => h2 e⟩
    · obtain rfl : k = n := by omega
      by_cases e2 : (g k).1 < u
      · exact ⟨k + 1, Nat.le_refl _, fun j hj => if e3 : j = k then e3 ▸ e2 else h1 j (by omega), fun h => absurd h (Nat.lt_irrefl _)⟩
      · exact ⟨k, by omega, h1, fun _ => by omega⟩
def PExt (b1 u1 : Int) (n1 : Nat) (f : Nat → Int × Int) (b2 u2 : Int) (n2 : Nat) (g : Nat → Int × Int) (post : World → Ending → World → Prop) : Prop :=
  ∀ (c1 c2 : Nat) (p1 p2 : Option Addr) (w : World), Mon w → LpIn w f n1 p1 → LpIn w g n2 p2 → n1 ≤ c1 → n2 ≤ c2 → c2 ≤ maxLen → (p2 = none → n2 = 0) →
    Calls Tryz.prog 15 #[.agg #[.int .i64 b1, .slice p1 n1 c1, .int .i64 u1], .agg #[.int .i64 b2, .slice p2 n2 c2, .int .i64 u2]] w (post w)
def RExt (b1 u1 : Int) (n1 : Nat) (f : Nat → Int × Int) (b2 u2 : Int) (n2 : Nat) (g : Nat → Int × Int) (post : World → Ending → World → Prop) : Prop :=
  ∀ (c1 c2 : Nat) (p1 p2 : Option Addr) (w : World), LpIn w f n1 p1 → LpIn w g n2 p2 → (p2 = none → n2 = 0) →
    Calls Tryz.prog 16 #[.agg #[.int .i64 b1, .slice p1 n1 c1, .int .i64 u1], .agg #[.int .i64 b2, .slice p2 n2 c2, .int .i64 u2]] w (post w)
def extNo (E : Int) (w : World) (e : Ending) (w' : World) : Prop := e = .returned (.tuple #[.agg #[.int .i64 0, .slice none 0 0, .int .i64 0], .int .i64 E]) ∧ Below w.heap.size w w'
def extOwn (b u : Int) (n : Nat) (g : Nat → Int × Int) (w : World) (e : Ending) (w' : World) : Prop :=
  ∃ q cq, e = .returned (.tuple #[.agg #[.int .i64 b, .slice q n cq, .int .i64 u], .int .i64 0]) ∧ n ≤ cq ∧ cq ≤ maxLen ∧ LpIn w' g n q ∧ (∀ bl o, q = some ⟨bl, o, none⟩ → w.heap.size ≤ bl ∧ ∀ i, w'.frozen? ⟨bl, i, none⟩ = false) ∧ Below w.heap.size w w'
def extRef (b u : Int) (n : Nat) (g : Nat → Int × Int) (w : World) (e : Ending) (w' : World) : Prop :=
  ∃ q cq, e = .returned (.tuple #[.agg #[.int .i64 b, .slice q n cq, .int .i64 u], .int .i64 0]) ∧ LpIn w' g n q ∧ Below w.heap.size w w'
theorem ext_pair (b1 u1 : Int) (n1 : Nat) (f : Nat → Int × Int) (b2 u2 : Int) (n2 : Nat) (g : Nat → Int × Int) (hn1 : n1 ≤ 1000) (hn2 : n2 ≤ 1000) :
    (∃ E : Int, E ≠ 0 ∧ PExt b1 u1 n1 f b2 u2 n2 g (extNo E) ∧ RExt b1 u1 n1 f b2 u2 n2 g (extNo E)) ∨
    (n2 ≤ 100 ∧ PExt b1 u1 n1 f b2 u2 n2 g (extOwn b2 u2 n2 g) ∧ RExt b1 u1 n1 f b2 u2 n2 g (extRef b2 u2 n2 g)) := by
  obtain ⟨e1, h1⟩ : ∃ e, tabE b1 u1 n1 f = e := ⟨_, rfl⟩
  obtain ⟨e2, h2⟩ : ∃ e, tabE b2 u2 n2 g = e := ⟨_, rfl⟩
  by_cases z1 : e1 = 0
  · subst z1
    by_cases z2 : e2 = 0
    · subst z2
      by_cases hu : u2 < u1
      · exact .inl ⟨9, by decide, fun c1 c2 p1 p2 w hw hs1 hs2 hc1 hc2 hm hp => Extend_state h1 h2 hu w hw hs1 hs2 hc1 hc2 hm hp, fun c1 c2 p1 p2 w hs1 hs2 hp => rExt_state h1 h2 hu w hs1 hs2 hn1 hn2⟩
      · by_cases hb : b1 = b2
        · subst hb
          have T1 := tab_ok h1
          have T2 := tab_ok h2
          obtain ⟨k, hk, hlt, hge⟩ := first_not g u1 n2
          by_cases hnn : n2 < n1
          · exact .inl ⟨91, by decide, fun c1 c2 p1 p2 w hw hs1 hs2 hc1 hc2 hm hp => Extend_leap2 h1 h2 (by omega) k hk hlt hge (fun e => by omega) w hw hs1 hs2 hc1 hc2 hm hp, fun c1 c2 p1 p2 w hs1 hs2 hp => rExt_few h1 h2 (by omega) hnn w hs1 hs2 hn1 hn2⟩
          · by_cases hg : ∀ i, i < n2 → goodE u1 f g n1 i
            · have hlt' : ∀ j, j < n1 → (g j).1 < u1 := fun j hj => by
                rw [← (hg j (by omega)).1 hj]
                have := (T1.d1 j hj).2
                omega
              exact .inr ⟨T2.n1, fun c1 c2 p1 p2 w hw hs1 hs2 hc1 hc2 hm hp => Extend_own h1 h2 (by omega) n1 (by omega) hlt' (fun h => (hg n1 h).2 (Nat.le_refl _)) ⟨rfl, eqF_of n1 (fun i hi => (hg i (by omega)).1 hi)⟩ w hw hs1 hs2 hc1 hc2 hm hp,
                fun c1 c2 p1 p2 w hs1 hs2 hp => rExt_ok h1 h2 (by omega) (by omega) hp hg w hs1 hs2 hn1 hn2⟩
            · have hbad : ∃ i, i < n2 ∧ ¬ goodE u1 f g n1 i := Classical.byContradiction fun h => hg fun i hi => Classical.byContradiction fun h2 => h ⟨i, hi, h2⟩
              refine .inl ⟨91, by decide, fun c1 c2 p1 p2 w hw hs1 hs2 hc1 hc2 hm hp => Extend_leap2 h1 h2 (by omega) k hk hlt hge (fun e => ?_) w hw hs1 hs2 hc1 hc2 hm hp, fun c1 c2 p1 p2 w hs1 hs2 hp => rExt_leap h1 h2 (by omega) (by omega) hbad w hs1 hs2 hn1 hn2⟩
              subst e
              rw [Bool.eq_false_iff]
              intro he
              refine hg fun i hi => ⟨fun h => eqF_all _ he i h, fun h => ?_⟩
              have hk2 := hge (by omega)
              rcases Nat.eq_or_lt_of_le h with h | h
              · rw [← h]; exact hk2
              · have := T2.o n1 i h hi
                omega
        · exact .inl ⟨91, by decide, fun c1 c2 p1 p2 w hw hs1 hs2 hc1 hc2 hm hp => Extend_base h1 h2 (by omega) hb w hw hs1 hs2 hc1 hc2 hm hp, fun c1 c2 p1 p2 w hs1 hs2 hp => rExt_base h1 h2 (by omega) hb w hs1 hs2 hn1 hn2⟩
    · exact .inl ⟨e2, z2, fun c1 c2 p1 p2 w hw hs1 hs2 hc1 hc2 hm hp => Extend_bad h1 h2 hn1 hn2 (by simp [orF]) z2 w hw hs1 hs2 hc1 hc2 hm hp, fun c1 c2 p1 p2 w hs1 hs2 hp => rExt_bad2 h1 h2 z2 w hs1 hs2 hn1 hn2⟩
  · exact .inl ⟨e1, z1, fun c1 c2 p1 p2 w hw hs1 hs2 hc1 hc2 hm hp => Extend_bad h1 h2 hn1 hn2 (by simp [orF, z1]) z1 w hw hs1 hs2 hc1 hc2 hm hp, fun c1 c2 p1 p2 w hs1 hs2 hp => rExt_bad1 h1 h2 z1 w hs1 hs2 hn1 hn2⟩
end Go.Proofs.YtgnfaemnehmgcaaGreatDoor.Cal
namespace Go.Proofs.YtgnfaemnehmgcaaGreatDoor.Cal
open Go Go.RowKit
attribute [local go_sem] Oper.semAt_some
set_option maxHeartbeats 1000000 in
theorem equalR_yes (f : Nat → Int × Int) (n c1 c2 : Nat) (p q : Option Addr) (w : World) (hn : n ≤ 1000000000) (h1 : LpIn w f n p) (h2 : LpIn w f n q) :
    Calls Tryz.prog 17 #[.slice p n c1, .slice q n c2] w fun e w' => e = .returned (.bool true) ∧ Below w.heap.size w w' := by
  have H1 := Lib.hid h1
  have H2 := Lib.hid h2
  clear h1 h2
  go_enter Tryz.func17, Tryz.ntmps17
  go_wp2_with fail
  go_loopw [4, 5, 13] (fun s4 s5 s13 wr => ∃ (k : Nat) (v5 : Value), k ≤ n ∧ s4 = .bool false ∧ s5 = v5 ∧ s13 = .int .i64 (k : Int) ∧ Hid (Below w.heap.size w wr)) (fun _ _ s _ => n - (intOf s).toNat)
  case atStart => exact ⟨0, _, Nat.zero_le _, rfl, rfl, rfl, Lib.hid (Below.refl _ _)⟩
  case round =>
    obtain ⟨k, v5, hk, rfl, rfl, rfl, HB⟩ := hrel
    by_cases hlt : k < n
    · have hki : (k : Int) < n := by omega
      have vk : IntKind.i64.wrap ((k : Int) + 1) = (k : Int) + 1 := IntWalk.i64_in _ (by omega)
      obtain ⟨b1, o1, rfl, hi1⟩ := H1.out.resolve_left (by omega)
      obtain ⟨b2, o2, rfl, hi2⟩ := H2.out.resolve_left (by omega)
      obtain ⟨x1, x2⟩ := (hi1.below HB.out) k hlt
      obtain ⟨y1, y2⟩ := (hi2.below HB.out) k hlt
      have z1 := cell_lt x1
      have z2 := cell_lt y1
      have HK := Lib.hid hlt
      clear hlt hi1 hi2
      generalize (f k).1 = dk at *
      generalize (f k).2 = sk at *
      go_wp2_with fail
      go_quiet (fail)
      go_wp2_with fail
      go_roundw
      case rel => exact ⟨k + 1, _, HK.out, rfl, rfl, by simp, Lib.hid (below_drewN HB.out _)⟩
      case measure => have := HK.out; simp [intOf]; omega
    · obtain rfl : k = n := by omega
      have hki : ¬ ((k : Int) < k) := by omega
      clear hlt
      go_wp2_with fail
      go_ret
      exact ⟨rfl, HB.out⟩
theorem LpIn.none_zero {w : World} {f : Nat → Int × Int} {n : Nat} {q : Option Addr} (h : LpIn w f n q) (hq : q = none) : n = 0 := by
  rcases h with h | ⟨b, o, e, _⟩
  · exact h
  · rw [hq] at e; cases e
def extP (b u : Int) (n : Nat) (g : Nat → Int × Int) (E : Int) (w : World) (e : Ending) (w' : World) : Prop :=
  ∃ q cq, e = .returned (.tuple #[.agg #[.int .i64 b, .slice q n cq, .int .i64 u], .int .i64 E]) ∧ n ≤ cq ∧ cq ≤ maxLen ∧ LpIn w' g n q ∧ (∀ bl o, q = some ⟨bl, o, none⟩ → w.heap.size ≤ bl ∧ ∀ i, w'.frozen? ⟨bl, i, none⟩ = false) ∧ Below w.heap.size w w'
def extR (b u : Int) (n : Nat) (g : Nat → Int × Int) (E : Int) (w : World) (e : Ending) (w' : World) : Prop :=
  ∃ q cq, e = .returned (.tuple #[.agg #[.int .i64 b, .slice q n cq, .int .i64 u], .int .i64 E]) ∧ LpIn w' g n q ∧ Below w.heap.size w w'
theorem ext_all (b1 u1 : Int) (n1 : Nat) (f : Nat → Int × Int) (b2 u2 : Int) (n2 : Nat) (g : Nat → Int × Int) (hn1 : n1 ≤ 1000) (hn2 : n2 ≤ 1000) :
    ∃ (b u : Int) (n : Nat) (h : Nat → Int × Int) (E : Int), n ≤ 100 ∧ PExt b1 u1 n1 f b2 u2 n2 g (extP b u n h E) ∧ RExt b1 u1 n1 f b2 u2 n2 g (extR b u n h E) := by
  rcases ext_pair b1 u1 n1 f b2 u2 n2 g hn1 hn2 with ⟨E, _, hp, hr⟩ | ⟨hn, hp, hr⟩
  · refine ⟨0, 0, 0, g, E, by decide, fun c1 c2 p1 p2 w a1 a2 a3 a4 a5 a6 a7 => (hp c1 c2 p1 p2 w a1 a2 a3 a4 a5 a6 a7).mono ?_, fun c1 c2 p1 p2 w a1 a2 a3 => (hr c1 c2 p1 p2 w a1 a2 a3).mono ?_⟩
    · rintro e w' ⟨rfl, hb⟩
      exact ⟨none, 0, rfl, Nat.le_refl _, by unfold maxLen; omega, .inl rfl, fun _ _ h => (by cases h), hb⟩
    · rintro e w' ⟨rfl, hb⟩
      exact ⟨none, 0, rfl, .inl rfl, hb⟩
  · exact ⟨b2, u2, n2, g, 0, hn, hp, hr⟩
theorem LpAt.put {X : World} {f : Nat → Int × Int} {m g o i : Nat} (h : LpAt X f m g o) (hi : i < m) (x : Int) : LpAt (X.setCell ⟨g, o + i * 2, none⟩ (.int .i64 x)) (fun j => if j = i then (x, (f i).2) else f j) m g o := by
  intro j hj
  obtain ⟨h0, h1⟩ := h j hj
  by_cases e : j = i
  · subst e
    simp only [if_pos]
    exact ⟨World.cell?_setCell_same _ _ _ h0, by rw [World.cell?_setCell_other _ ⟨g, o + j * 2, none⟩ ⟨g, o + j * 2 + 1, none⟩ _ (fun e => by injection e; omega)]; exact h1⟩
  · simp only [if_neg e]
    exact ⟨by rw [World.cell?_setCell_other _ ⟨g, o + i * 2, none⟩ ⟨g, o + j * 2, none⟩ _ (fun e => by injection e; omega)]; exact h0, by rw [World.cell?_setCell_other _ ⟨g, o + i * 2, none⟩ ⟨g, o + j * 2 + 1, none⟩ _ (fun e => by injection e; omega)]; exact h1⟩
end Go.Proofs.YtgnfaemnehmgcaaGreatDoor.Cal
namespace Go.Proofs.YtgnfaemnehmgcaaGreatDoor.Cal
open Go Go.RowKit
attribute [local go_sem] Oper.semAt_some
structure TxtAt (w X : World) (b1 u1 : Int) (n1 c1 : Nat) (p1 : Option Addr) (f : Nat → Int × Int) (b2 u2 : Int) (n2 c2 : Nat) (p2 : Option Addr) (g : Nat → Int × Int) (y m d h i s : Int) : Prop where
  t1 : TBox X w.heap.size b1 u1 n1 c1 p1
  t2 : TBox X (w.heap.size + 1) b2 u2 n2 c2 p2
  dt : DBox X (w.heap.size + 1 + 1) y m d h i s
  l1 : LpIn X f n1 p1
  l2 : LpIn X g n2 p2
  mon : Mon X
  pow : Pow X
  bel : Below w.heap.size w X
theorem TxtAt.below {w X Y : World} {b1 u1 : Int} {n1 c1 : Nat} {p1 : Option Addr} {f : Nat → Int × Int} {b2 u2 : Int} {n2 c2 : Nat} {p2 : Option Addr} {g : Nat → Int × Int} {y m d h i s : Int} (k : TxtAt w X b1 u1 n1 c1 p1 f b2 u2 n2 c2 p2 g y m d h i s) (hb : Below X.heap.size X Y) : TxtAt w Y b1 u1 n1 c1 p1 f b2 u2 n2 c2 p2 g y m d h i s :=
  ⟨k.t1.below hb, k.t2.below hb, k.dt.below hb, k.l1.below hb, k.l2.below hb, k.mon.below hb, k.pow.below hb, bt k.bel hb⟩
theorem txt_start (w : World) {b1 u1 : Int} {n1 c1 : Nat} {p1 : Option Addr} {f : Nat → Int × Int} {b2 u2 : Int} {n2 c2 : Nat} {p2 : Option Addr} {g : Nat → Int × Int} {y m d h i s : Int} (hw : Mon w) (hp : Pow w) (l1 : LpIn w f n1 p1) (l2 : LpIn w g n2 p2) : TxtAt w (((w.alloc (.cells #[.int .i64 b1, .slice p1 n1 c1, .int .i64 u1] 24)).alloc (.cells #[.int .i64 b2, .slice p2 n2 c2, .int .i64 u2] 24)).alloc (.cells #[.int .i64 y, .int .i64 m, .int .i64 d, .int .i64 h, .int .i64 i, .int .i64 s] 26)) b1 u1 n1 c1 p1 f b2 u2 n2 c2 p2 g y m d h i s := by
  have k1 := below_alloc (Below.refl w.heap.size w) (.cells #[.int .i64 b1, .slice p1 n1 c1, .int .i64 u1] 24)
  have t1 := TBox.new w b1 u1 n1 c1 p1 24
  have e1 : (w.alloc (.cells #[.int .i64 b1, .slice p1 n1 c1, .int .i64 u1] 24)).heap.size = w.heap.size + 1 := by simp
  generalize w.alloc (.cells #[.int .i64 b1, .slice p1 n1 c1, .int .i64 u1] 24) = W1 at *
  have k2 := below_alloc (Below.refl W1.heap.size W1) (.cells #[.int .i64 b2, .slice p2 n2 c2, .int .i64 u2] 24)
  have t2 := TBox.new W1 b2 u2 n2 c2 p2 24
  have e2 : (W1.alloc (.cells #[.int .i64 b2, .slice p2 n2 c2, .int .i64 u2] 24)).heap.size = w.heap.size + 1 + 1 := by simp [e1]
  rw [e1] at t2
  generalize W1.alloc (.cells #[.int .i64 b2, .slice p2 n2 c2, .int .i64 u2] 24) = W2 at *
  have k3 := below_alloc (Below.refl W2.heap.size W2) (.cells #[.int .i64 y, .int .i64 m, .int .i64 d, .int .i64 h, .int .i64 i, .int .i64 s] 26)
  have t3 := DBox.new W2 y m d h i s
  rw [e2] at t3
  have kb := bt (bt k1 k2) k3
  exact ⟨(t1.below k2).below k3, t2.below k3, t3, l1.below kb, l2.below kb, hw.below kb, hp.below kb, kb⟩
theorem copy_boxes (X : World) (b u : Int) (n cq cr : Nat) (q r : Option Addr) : TBox ((X.alloc (.cells #[.int .i64 b, .slice q n cq, .int .i64 u] 24)).alloc (.cells #[.int .i64 b, .slice r n cr, .int .i64 u] 55)) X.heap.size b u n cq q ∧ TBox ((X.alloc (.cells #[.int .i64 b, .slice q n cq, .int .i64 u] 24)).alloc (.cells #[.int .i64 b, .slice r n cr, .int .i64 u] 55)) (X.heap.size + 1) b u n cr r ∧
    Below X.heap.size X ((X.alloc (.cells #[.int .i64 b, .slice q n cq, .int .i64 u] 24)).alloc (.cells #[.int .i64 b, .slice r n cr, .int .i64 u] 55)) := by
  have k1 := below_alloc (Below.refl X.heap.size X) (.cells #[.int .i64 b, .slice q n cq, .int .i64 u] 24)
  have t1 := TBox.new X b u n cq q 24
  have e1 : (X.alloc (.cells #[.int .i64 b, .slice q n cq, .int .i64 u] 24)).heap.size = X.heap.size + 1 := by simp
  generalize X.alloc (.cells #[.int .i64 b, .slice q n cq, .int .i64 u] 24) = W1 at *
  have k2 := below_alloc (Below.refl W1.heap.size W1) (.cells #[.int .i64 b, .slice r n cr, .int .i64 u] 55)
  have t2 := TBox.new W1 b u n cr r 55
  rw [e1] at t2
  exact ⟨t1.below k2, t2, bt k1 k2⟩
structure TxtL (B X : World) (a : Nat) (b u : Int) (n c : Nat) (q : Option Addr) : Prop where
  bel : Below B.heap.size B X
  tb : TBox X a b u n c q
  lst : ∃ g, LpIn X g n q
  fz : 0 < n → ∀ bl o, q = some ⟨bl, o, none⟩ → B.heap.size ≤ bl ∧ bl < a ∧ ∀ i, X.frozen? ⟨bl, i, none⟩ = false
theorem TxtL.put {B X : World} {a : Nat} {b u : Int} {n c : Nat} {bl o : Nat} (k : TxtL B X a b u n c (some ⟨bl, o, none⟩)) {g : Nat → Int × Int} (hl : LpAt X g n bl o) {j : Nat} (hj : j < n) (x : Int) :
    TxtL B (X.setCell ⟨bl, o + j * 2, none⟩ (.int .i64 x)) a b u n c (some ⟨bl, o, none⟩) := by
  obtain ⟨h1, h2, h3⟩ := k.fz (by omega) bl o rfl
  have far : ∀ {i : Nat} {v : Value}, X.cell? ⟨a, i, none⟩ = some v → (X.setCell ⟨bl, o + j * 2, none⟩ (.int .i64 x)).cell? ⟨a, i, none⟩ = some v := fun {i v} hv => by
    rw [World.cell?_setCell_other _ ⟨bl, o + j * 2, none⟩ ⟨a, i, none⟩ _ (fun e => by injection e; omega)]; exact hv
  exact ⟨k.bel.setCell (p := ⟨bl, o + j * 2, none⟩) h1 _, ⟨far k.tb.c0, far k.tb.c1, far k.tb.c2⟩, ⟨_, .inr ⟨bl, o, rfl, hl.put hj x⟩⟩,
    fun _ bl' o' e => by
      cases e
      exact ⟨h1, h2, fun i => by rw [World.frozen?_setCell]; exact h3 i⟩⟩
theorem TxtL.below {B X Y : World} {a : Nat} {b u : Int} {n c : Nat} {q : Option Addr} (k : TxtL B X a b u n c q) (hb : Below X.heap.size X Y) : TxtL B Y a b u n c q :=
  ⟨bt k.bel hb, k.tb.below hb, k.lst.imp fun _ h => h.below hb, fun hn bl o e => by
    obtain ⟨h1, h2, h3⟩ := k.fz hn bl o e
    have hlt : bl < X.heap.size := Nat.lt_trans h2 (cell_lt k.tb.c0)
    exact ⟨h1, h2, fun i => (hb.frozen (p := ⟨bl, i, none⟩) hlt).trans (h3 i)⟩⟩
theorem TxtL.new {B X : World} {b u : Int} {n c : Nat} {q : Option Addr} {g : Nat → Int × Int} (hl : LpIn X g n q) (hz : ∀ bl o, q = some ⟨bl, o, none⟩ → B.heap.size ≤ bl ∧ ∀ i, X.frozen? ⟨bl, i, none⟩ = false) (hb : Below B.heap.size B X) :
    TxtL B (X.alloc (.cells #[.int .i64 b, .slice q n c, .int .i64 u] 24)) X.heap.size b u n c q := by
  have k1 := below_alloc (Below.refl X.heap.size X) (.cells #[.int .i64 b, .slice q n c, .int .i64 u] 24)
  refine ⟨bt hb k1, TBox.new X b u n c q _, ⟨g, hl.below k1⟩, fun hn bl o e => ?_⟩
  obtain ⟨h1, h2⟩ := hz bl o e
  rcases hl with h | ⟨b', o', e', hi⟩
  · omega
  · have e2 := e.symm.trans e'
    have hbb : bl = b' := by injection e2 with e3; injection e3
    have hlt : bl < X.heap.size := hbb ▸ cell_lt (hi 0 hn).1
    exact ⟨h1, hlt, fun i => (k1.frozen (p := ⟨bl, i, none⟩) hlt).trans (h2 i)⟩
structure TxtM (w X : World) (blk : Nat) : Prop where
  c : ∀ j, j < 2 → ∃ T, X.cell? ⟨blk, j, none⟩ = some (.string T)
  bel : Below w.heap.size w X
theorem TxtM.below {w X Y : World} {blk : Nat} (k : TxtM w X blk) (hb : Below X.heap.size X Y) : TxtM w Y blk :=
  ⟨fun j hj => (k.c j hj).imp fun _ h => cell_below hb h, bt k.bel hb⟩
set_option maxRecDepth 100000 in
set_option maxHeartbeats 16000000 in
theorem texts_any (b1 u1 : Int) (n1 c1 : Nat) (p1 : Option Addr) (f : Nat → Int × Int) (b2 u2 : Int) (n2 c2 : Nat) (p2 : Option Addr) (g : Nat → Int × Int) (y m d h i s : Int) (Ly : -9223372036854775808 ≤ y ∧ y ≤ 9223372036854775807) (Lm : -9223372036854775808 ≤ m ∧ m ≤ 9223372036854775807) (Ld : -9223372036854775808 ≤ d ∧ d ≤ 9223372036854775807) (Lh : -9223372036854775808 ≤ h ∧ h ≤ 9223372036854775807) (Li : -9223372036854775808 ≤ i ∧ i ≤ 9223372036854775807) (Ls : -9223372036854775808 ≤ s ∧ s ≤ 9223372036854775807) (S : ByteArray) (w : World) (hw : Mon w) (hpw : Pow w) (hn1 : n1 ≤ 1000) (hn2 : n2 ≤ 1000) (hp1 : p1 = none → n1 = 0) (hp2 : p2 = none → n2 = 0) (l1 : LpIn w f n1 p1) (l2 : LpIn w g n2 p2) :
    Calls Tryz.prog 5 #[.agg #[.int .i64 b1, .slice p1 n1 c1, .int .i64 u1], .agg #[.int .i64 b2, .slice p2 n2 c2, .int .i64 u2], .agg #[.int .i64 y, .int .i64 m, .int .i64 d, .int .i64 h, .int .i64 i, .int .i64 s], .string S] w fun e w' => e = .returned (.bool true) ∧ Below w.heap.size w w' := by
  obtain ⟨b3, u3, n3, h3, E, hn3, hpe, hre⟩ := ext_all b1 u1 n1 f b2 u2 n2 g hn1 hn2
  have HL := Lib.hid (txt_start w (c1 := c1) (c2 := c2) (b1 := b1) (u1 := u1) (b2 := b2) (u2 := u2) (y := y) (m := m) (d := d) (h := h) (i := i) (s := s) hw hpw l1 l2)
  have PE := Lib.hid hpe
  have RE := Lib.hid hre
  have N1 := Lib.hid (And.intro hn1 hp1)
  have N2 := Lib.hid (And.intro hn2 hp2)
  have HF := Lib.hid (fun X hX => Format_all y m d h i s Ly Lm Ld Lh Li Ls X hX)
  have HRF := Lib.hid (fun X => rFormat_any y m d h i s Ly Lm Ld Lh Li Ls X)
  obtain ⟨F, hF⟩ : ∃ F, fmtB y m d h i s = F := ⟨_, rfl⟩
  rw [hF] at HF HRF
  unfold PExt at PE
  unfold RExt at RE
  clear hpe hre hn1 hn2 hp1 hp2 l1 l2 hw hpw hF Ly Lm Ld Lh Li Ls
  go_enter Tryz.func5, Tryz.ntmps5
  go_upto_region 1 with fail
  generalize ((w.alloc (.cells #[.int .i64 b1, .slice p1 n1 c1, .int .i64 u1] 24)).alloc (.cells #[.int .i64 b2, .slice p2 n2 c2, .int .i64 u2] 24)).alloc (.cells #[.int .i64 y, .int .i64 m, .int .i64 d, .int .i64 h, .int .i64 i, .int .i64 s] 26) = W0 at *
  obtain ⟨x0, x1, x2⟩ := HL.out.t1
  have zx := cell_lt x0
  have HCP := Lib.hid (copied_any b1 u1 f n1 c1 p1 _ N1.out.1 N1.out.2 HL.out.l1)
  go_upto_region 2 with (go_at_call 14; refine HCP.out.mono ?_; rintro e w2 ⟨q1, cq1, r1, cr1, rfl, hq, hlq, hlr, hb⟩; have HQ1 := Lib.hid hq; have HM1 := Lib.hid hlq; have HR1 := Lib.hid hlr; have HB2 := Lib.hid hb; clear hq hlq hlr hb)
  clear x0 x1 x2 zx HCP
  obtain ⟨tq1, tr1, kb1⟩ := copy_boxes w2 b1 u1 n1 cq1 cr1 q1 r1
  have TQ1 := Lib.hid tq1
  have TR1 := Lib.hid tr1
  have HM1 := Lib.hid (HM1.out.below kb1)
  have HR1 := Lib.hid (HR1.out.below kb1)
  have BB2 := Lib.hid (bt HB2.out kb1)
  have HL := Lib.hid (HL.out.below BB2.out)
  clear tq1 tr1 kb1 HB2
  generalize (w2.alloc (.cells #[.int .i64 b1, .slice q1 n1 cq1, .int .i64 u1] 24)).alloc (.cells #[.int .i64 b1, .slice r1 n1 cr1, .int .i64 u1] 55) = W2 at *
  generalize w2.heap.size = a2 at *
  obtain ⟨x0, x1, x2⟩ := HL.out.t2
  have zx := cell_lt x0
  have HCP := Lib.hid (copied_any b2 u2 g n2 c2 p2 _ N2.out.1 N2.out.2 HL.out.l2)
  go_upto_region 3 with (go_at_call 14; refine HCP.out.mono ?_; rintro e w3 ⟨q2, cq2, r2, cr2, rfl, hq, hlq, hlr, hb⟩; have HQ2 := Lib.hid hq; have HM2 := Lib.hid hlq; have HR2 := Lib.hid hlr; have HB3 := Lib.hid hb; clear hq hlq hlr hb)
  clear x0 x1 x2 zx HCP
  obtain ⟨tq2, tr2, kb2⟩ := copy_boxes w3 b2 u2 n2 cq2 cr2 q2 r2
  have TQ2 := Lib.hid tq2
  have TR2 := Lib.hid tr2
  have HM2 := Lib.hid (HM2.out.below kb2)
  have HR2 := Lib.hid (HR2.out.below kb2)
  have BB3 := Lib.hid (bt HB3.out kb2)
  have HL := Lib.hid (HL.out.below BB3.out)
  clear tq2 tr2 kb2 HB3
  have TQ1 := Lib.hid (TQ1.out.below BB3.out)
  have TR1 := Lib.hid (TR1.out.below BB3.out)
  have HM1 := Lib.hid (HM1.out.below BB3.out)
  have HR1 := Lib.hid (HR1.out.below BB3.out)
  generalize (w3.alloc (.cells #[.int .i64 b2, .slice q2 n2 cq2, .int .i64 u2] 24)).alloc (.cells #[.int .i64 b2, .slice r2 n2 cr2, .int .i64 u2] 55) = W3 at *
  generalize w3.heap.size = a3 at *
  clear BB2 BB3
  obtain ⟨x0, x1, x2⟩ := TQ1.out
  have zx := cell_lt x0
  obtain ⟨y0, y1, y2⟩ := TQ2.out
  have zy := cell_lt y0
  have HEX := Lib.hid (PE.out cq1 cq2 q1 q2 W3 HL.out.mon HM1.out HM2.out HQ1.out.1 HQ2.out.1 HQ2.out.2 (fun e => HM2.out.none_zero e))
  go_upto_region 4 with (go_at_call 15; refine HEX.out.mono ?_; rintro e w4 ⟨q3, cq3, rfl, hc3, hm3, hl3, hz3, hb4⟩; have HM3 := Lib.hid hl3; have HT := Lib.hid (TxtL.new (b := b3) (u := u3) (c := cq3) hl3 hz3 hb4); clear hc3 hm3 hl3 hz3 hb4)
  clear x0 x1 x2 zx y0 y1 y2 zy HEX
  have HM3 := Lib.hid (HM3.out.below (below_alloc (Below.refl w4.heap.size w4) (.cells #[.int .i64 b3, .slice q3 n3 cq3, .int .i64 u3] 24)))
  generalize w4.alloc (.cells #[.int .i64 b3, .slice q3 n3 cq3, .int .i64 u3] 24) = W4 at *
  generalize w4.heap.size = a4 at *
  obtain ⟨x0, x1, x2⟩ := TR1.out.below HT.out.bel
  have zx := cell_lt x0
  obtain ⟨y0, y1, y2⟩ := TR2.out.below HT.out.bel
  have zy := cell_lt y0
  have HEX := Lib.hid (RE.out cr1 cr2 r1 r2 W4 (HR1.out.below HT.out.bel) (HR2.out.below HT.out.bel) (fun e => HR2.out.none_zero e))
  go_upto_region 5 with (go_at_call 16; refine HEX.out.mono ?_; rintro e w5 ⟨q4, cq4, rfl, hl4, hb5⟩; have HM4 := Lib.hid hl4; have HB5 := Lib.hid hb5; clear hl4 hb5)
  clear x0 x1 x2 zx y0 y1 y2 zy HEX
  have kk := below_alloc (Below.refl w5.heap.size w5) (.cells #[.int .i64 b3, .slice q4 n3 cq4, .int .i64 u3] 55)
  have T5 := Lib.hid (TBox.new w5 b3 u3 n3 cq4 q4 55)
  have HM4 := Lib.hid (HM4.out.below kk)
  have BB5 := Lib.hid (bt HB5.out kk)
  have HM3 := Lib.hid (HM3.out.below BB5.out)
  have HT := Lib.hid (HT.out.below BB5.out)
  clear kk HB5 BB5
  generalize w5.alloc (.cells #[.int .i64 b3, .slice q4 n3 cq4, .int .i64 u3] 55) = W5 at *
  generalize w5.heap.size = a5 at *
  obtain ⟨x0, x1, x2⟩ := HT.out.tb
  have zx := cell_lt x0
  have HCP := Lib.hid (copied_any b3 u3 h3 n3 cq3 q3 W5 (by omega) (fun e => HM3.out.none_zero e) HM3.out)
  go_upto_region 6 with (go_at_call 14; refine HCP.out.mono ?_; rintro e w6 ⟨q5, cq5, r5, cr5, rfl, hq, hlq, hlr, hb⟩; have HR5 := Lib.hid hlr; have HB6 := Lib.hid hb; clear hq hlq hlr hb)
  clear x0 x1 x2 zx HCP
  obtain ⟨tq5, tr5, kb5⟩ := copy_boxes w6 b3 u3 n3 cq5 cr5 q5 r5
  have TR5 := Lib.hid tr5
  have HR5 := Lib.hid (HR5.out.below kb5)
  have BB6 := Lib.hid (bt HB6.out kb5)
  have HM4 := Lib.hid (HM4.out.below BB6.out)
  have T5 := Lib.hid (T5.out.below BB6.out)
  have HT := Lib.hid (HT.out.below BB6.out)
  clear tq5 tr5 kb5 HB6 BB6 HM3
  generalize (w6.alloc (.cells #[.int .i64 b3, .slice q5 n3 cq5, .int .i64 u3] 24)).alloc (.cells #[.int .i64 b3, .slice r5 n3 cr5, .int .i64 u3] 55) = W6 at *
  generalize w6.heap.size = a6 at *
  obtain ⟨x0, x1, x2⟩ := TR5.out
  have zx := cell_lt x0
  obtain ⟨y0, y1, y2⟩ := T5.out
  have zy := cell_lt y0
  have HEQ := Lib.hid (equalR_yes h3 n3 cr5 cq4 r5 q4 W6 (by omega) HR5.out HM4.out)
  have HK1 := Lib.hid (fun X (hX : Below W3.heap.size W3 X) => kept_yes b1 u1 f n1 cq1 c1 q1 p1 X (by have := N1.out.1; omega) (HM1.out.below hX) (HL.out.l1.below hX))
  have HK2 := Lib.hid (fun X (hX : Below W3.heap.size W3 X) => kept_yes b2 u2 g n2 cq2 c2 q2 p2 X (by have := N2.out.1; omega) (HM2.out.below hX) (HL.out.l2.below hX))
  go_upto_region 8 with (first | (go_at_call 17; refine HEQ.out.mono ?_; rintro e w7 ⟨rfl, hb⟩; have HB7 := Lib.hid hb; have C7 := Lib.hid (bt HT.out.bel hb); clear hb x0 x1 x2 zx y0 y1 y2 zy; obtain ⟨x0, x1, x2⟩ := TQ1.out.below C7.out; have zx := cell_lt x0; obtain ⟨y0, y1, y2⟩ := HL.out.t1.below C7.out; have zy := cell_lt y0) | (go_at_call 18; refine (HK1.out _ C7.out).mono ?_; rintro e w8 ⟨rfl, hb⟩; have HB8 := Lib.hid (bt HB7.out hb); have C8 := Lib.hid (bt C7.out hb); clear C7 hb x0 x1 x2 zx y0 y1 y2 zy; obtain ⟨x0, x1, x2⟩ := TQ2.out.below C8.out; have zx := cell_lt x0; obtain ⟨y0, y1, y2⟩ := HL.out.t2.below C8.out; have zy := cell_lt y0) | (go_at_call 18; refine (HK2.out _ C8.out).mono ?_; rintro e w9 ⟨rfl, hb⟩; have HT := Lib.hid (HT.out.below (bt HB8.out hb)); clear hb x0 x1 x2 zx y0 y1 y2 zy; obtain ⟨x0, x1, x2⟩ := HT.out.tb; have zx := cell_lt x0))
  go_wp2_with fail
  clear x0 x1 x2 zx HEQ
  go_loopw [19, 94] (fun s19 s94 wr => ∃ (j : Nat) (v : Value), j ≤ n3 ∧ s19 = v ∧ s94 = .int .i64 (j : Int) ∧ Hid (TxtL W3 wr a4 b3 u3 n3 cq3 q3)) (fun _ s _ => n3 - (intOf s).toNat)
  case atStart => exact ⟨0, _, Nat.zero_le _, rfl, rfl, HT⟩
  case round =>
    clear HT
    obtain ⟨j, v, hj, rfl, rfl, HT⟩ := hrel
    by_cases hlt : j < n3
    · have hki : (j : Int) < n3 := by omega
      have vk : IntKind.i64.wrap ((j : Int) + 1) = (j : Int) + 1 := IntWalk.i64_in _ (by omega)
      obtain ⟨gg, hgg⟩ := HT.out.lst
      obtain ⟨bl, oo, rfl, hsi⟩ := hgg.resolve_left (by omega)
      have HSI := Lib.hid hsi
      obtain ⟨y0, y1⟩ := hsi j hlt
      have zy := cell_lt y0
      have fz := (HT.out.fz (by omega) bl oo rfl).2.2 (oo + j * 2)
      obtain ⟨x0, x1, x2⟩ := HT.out.tb
      have zx := cell_lt x0
      have HK := Lib.hid hlt
      clear hlt hsi hgg
      generalize hd : (gg j).1 = dk at *
      go_wp2_with fail
      exact ⟨⟨j + 1, _, HK.out, rfl, by simp, Lib.hid (HT.out.put HSI.out HK.out _)⟩, by have := HK.out; simp [intOf]; omega⟩
    · obtain rfl : j = n3 := by omega
      have hki : ¬ ((j : Int) < j) := by omega
      clear hlt
      have C9 := Lib.hid HT.out.bel
      obtain ⟨x0, x1, x2⟩ := TQ1.out.below C9.out; have zx := cell_lt x0
      obtain ⟨y0, y1, y2⟩ := HL.out.t1.below C9.out; have zy := cell_lt y0
      go_upto_region 15 with (first | (go_at_call 18; refine (HK1.out _ C9.out).mono ?_; rintro e w10 ⟨rfl, hb⟩; have C10 := Lib.hid (bt C9.out hb); clear C9 hb x0 x1 x2 zx y0 y1 y2 zy; obtain ⟨x0, x1, x2⟩ := TQ2.out.below C10.out; have zx := cell_lt x0; obtain ⟨y0, y1, y2⟩ := HL.out.t2.below C10.out; have zy := cell_lt y0) | (go_at_call 18; refine (HK2.out _ C10.out).mono ?_; rintro e w11 ⟨rfl, hb⟩; have HL11 := Lib.hid (HL.out.below (bt C10.out hb)); clear hb x0 x1 x2 zx y0 y1 y2 zy))
      clear HK1 HK2 HT TQ1 TQ2 TR1 TR2 HM1 HM2 HR1 HR2 HQ1 HQ2 TR5 T5 HR5 HM4 PE RE N1 N2
      obtain ⟨d0, d1, d2, d3, d4, d5⟩ := HL11.out.dt
      have zd := cell_lt d0
      go_upto_region 18 with (first | (go_at_call 19; refine (HF.out _ HL11.out.pow).mono ?_; rintro e w12 ⟨rfl, hb⟩; have HL12 := Lib.hid (HL11.out.below hb); clear hb d0 d1 d2 d3 d4 d5 zd; obtain ⟨d0, d1, d2, d3, d4, d5⟩ := HL12.out.dt; have zd := cell_lt d0) | (go_at_call 20; refine (HRF.out _).mono ?_; rintro e w13 ⟨rfl, hb⟩; have HB13 := Lib.hid (bt HL12.out.bel hb); clear hb d0 d1 d2 d3 d4 d5 zd))
      have HX := Lib.hid (show TxtM w (w13.alloc (.cells #[.string S, .string F] 9)) w13.heap.size from ⟨fun j hj => by
        rcases (by omega : j = 0 ∨ j = 1) with rfl | rfl
        · exact ⟨S, by simp⟩
        · exact ⟨F, by simp⟩, bt HB13.out (below_alloc (Below.refl _ _) _)⟩)
      go_wp2_with fail
      generalize w13.alloc (.cells #[.string S, .string F] 9) = W14 at *
      generalize w13.heap.size = blk at *
      go_loopw [22, 127] (fun s22 s127 wr => ∃ (j : Nat) (v : Value), j ≤ 2 ∧ s22 = v ∧ s127 = .int .i64 (j : Int) ∧ Hid (TxtM w wr blk)) (fun _ s _ => 2 - (intOf s).toNat)
      case atStart => exact ⟨0, _, Nat.zero_le _, rfl, rfl, HX⟩
      case round =>
        clear HX
        obtain ⟨j, v, hj, rfl, rfl, HX⟩ := hrel
        by_cases hlt : j < 2
        · have hki : (j : Int) < 2 := by omega
          have vk : IntKind.i64.wrap ((j : Int) + 1) = (j : Int) + 1 := IntWalk.i64_in _ (by omega)
          obtain ⟨T, hT⟩ := HX.out.c j hlt
          have zT := cell_lt hT
          obtain ⟨py, pk, pd, ph, pm, ps, pe, hP, hRP⟩ := parse_pair T
          have HP := Lib.hid hP
          have HRP := Lib.hid hRP
          have HK := Lib.hid hlt
          clear hlt hP hRP hj
          go_wp2_with (first | (go_at_call 21; refine (HP.out _).mono ?_; rintro e w15 ⟨rfl, hb⟩; have CV := Lib.hid (DBox.new w15 py pk pd ph pm ps); have HX := Lib.hid ((HX.out.below hb).below (below_alloc (Below.refl _ _) (.cells #[.int .i64 py, .int .i64 pk, .int .i64 pd, .int .i64 ph, .int .i64 pm, .int .i64 ps] 26))); clear hb hT zT) | (go_at_call 22; refine (HRP.out _).mono ?_; rintro e w16 ⟨rfl, hb⟩; obtain ⟨d0, d1, d2, d3, d4, d5⟩ := CV.out.below hb; have zd := cell_lt d0; have HX := Lib.hid ((HX.out.below hb).below (below_alloc (Below.refl _ _) (.cells #[.int .i64 py, .int .i64 pk, .int .i64 pd, .int .i64 ph, .int .i64 pm, .int .i64 ps] 67))); clear hb CV))
          exact ⟨⟨j + 1, _, HK.out, rfl, by simp, HX⟩, by have := HK.out; simp [intOf]; omega⟩
        · obtain rfl : j = 2 := by omega
          have hki : ¬ ((2 : Int) < 2) := by omega
          clear hlt
          go_wp2_with fail
          go_ret
          exact ⟨rfl, HX.out.bel⟩
end Go.Proofs.YtgnfaemnehmgcaaGreatDoor.Cal
