/- Layer 9 (calendar): the reference's slices.Equal; Extend of the program and of the reference, told alike. (by gen_vn.py) -/
import Derived.Test.YtgnfaemnehmgcaaGreatDoorQ50
import Derived.Test.YtgnfaemnehmgcaaGreatDoorQ18
namespace Go.Proofs.YtgnfaemnehmgcaaGreatDoor.Cal
open Go Go.RowKit
attribute [local go_sem] Oper.semAt_some
set_option maxHeartbeats 1000000 in
theorem equalR_yes (f : Nat → Int × Int) (n c1 c2 : Nat) (p q : Option Addr) (w : World) (hn : n ≤ 1000000000) (h1 : LpIn w f n p) (h2 : LpIn w f n q) :
    Calls Tryz.prog 17 #[.slice p n c1, .slice q n c2] w fun e w' => e = .returned (.bool true) ∧ Below w.heap.size w w' := by
  have H1 := Lib.hid h1
  have H2 := Lib.hid h2
  clear h1 h2
  go_enter Tryz.func17, Tryz.ntmps17
  go_wp2_with fail
  go_loopw [4, 5, 13] (fun s4 s5 s13 wr => ∃ (k : Nat) (v5 : Value), k ≤ n ∧ s4 = .bool false ∧ s5 = v5 ∧ s13 = .int .i64 (k : Int) ∧ Hid (Below w.heap.size w wr)) (fun _ _ s _ => n - (intOf s).toNat)
  case atStart => exact ⟨0, _, Nat.zero_le _, rfl, rfl, rfl, Lib.hid (Below.refl _ _)⟩
  case round =>
    obtain ⟨k, v5, hk, rfl, rfl, rfl, HB⟩ := hrel
    by_cases hlt : k < n
    · have hki : (k : Int) < n := by omega
      have vk : IntKind.i64.wrap ((k : Int) + 1) = (k : Int) + 1 := IntWalk.i64_in _ (by omega)
      obtain ⟨b1, o1, rfl, hi1⟩ := H1.out.resolve_left (by omega)
      obtain ⟨b2, o2, rfl, hi2⟩ := H2.out.resolve_left (by omega)
      obtain ⟨x1, x2⟩ := (hi1.below HB.out) k hlt
      obtain ⟨y1, y2⟩ := (hi2.below HB.out) k hlt
      have z1 := cell_lt x1
      have z2 := cell_lt y1
      have HK := Lib.hid hlt
      clear hlt hi1 hi2
      generalize (f k).1 = dk at *
      generalize (f k).2 = sk at *
      go_wp2_with fail
      go_quiet (fail)
      go_wp2_with fail
      go_roundw
      case rel => exact ⟨k + 1, _, HK.out, rfl, rfl, by simp, Lib.hid (below_drewN HB.out _)⟩
      case measure => have := HK.out; simp [intOf]; omega
    · obtain rfl : k = n := by omega
      have hki : ¬ ((k : Int) < k) := by omega
      clear hlt
      go_wp2_with fail
      go_ret
      exact ⟨rfl, HB.out⟩
theorem LpIn.none_zero {w : World} {f : Nat → Int × Int} {n : Nat} {q : Option Addr} (h : LpIn w f n q) (hq : q = none) : n = 0 := by
  rcases h with h | ⟨b, o, e, _⟩
  · exact h
  · rw [hq] at e; cases e
/-- what Extend of the program answers, an error or not -/
def extP (b u : Int) (n : Nat) (g : Nat → Int × Int) (E : Int) (w : World) (e : Ending) (w' : World) : Prop :=
  ∃ q cq, e = .returned (.tuple #[.agg #[.int .i64 b, .slice q n cq, .int .i64 u], .int .i64 E]) ∧ n ≤ cq ∧ cq ≤ maxLen ∧ LpIn w' g n q ∧ (∀ bl o, q = some ⟨bl, o, none⟩ → w.heap.size ≤ bl ∧ ∀ i, w'.frozen? ⟨bl, i, none⟩ = false) ∧ Below w.heap.size w w'
def extR (b u : Int) (n : Nat) (g : Nat → Int × Int) (E : Int) (w : World) (e : Ending) (w' : World) : Prop :=
  ∃ q cq, e = .returned (.tuple #[.agg #[.int .i64 b, .slice q n cq, .int .i64 u], .int .i64 E]) ∧ LpIn w' g n q ∧ Below w.heap.size w w'
theorem ext_all (b1 u1 : Int) (n1 : Nat) (f : Nat → Int × Int) (b2 u2 : Int) (n2 : Nat) (g : Nat → Int × Int) (hn1 : n1 ≤ 1000) (hn2 : n2 ≤ 1000) :
    ∃ (b u : Int) (n : Nat) (h : Nat → Int × Int) (E : Int), n ≤ 100 ∧ PExt b1 u1 n1 f b2 u2 n2 g (extP b u n h E) ∧ RExt b1 u1 n1 f b2 u2 n2 g (extR b u n h E) := by
  rcases ext_pair b1 u1 n1 f b2 u2 n2 g hn1 hn2 with ⟨E, _, hp, hr⟩ | ⟨hn, hp, hr⟩
  · refine ⟨0, 0, 0, g, E, by decide, fun c1 c2 p1 p2 w a1 a2 a3 a4 a5 a6 a7 => (hp c1 c2 p1 p2 w a1 a2 a3 a4 a5 a6 a7).mono ?_, fun c1 c2 p1 p2 w a1 a2 a3 => (hr c1 c2 p1 p2 w a1 a2 a3).mono ?_⟩
    · rintro e w' ⟨rfl, hb⟩
      exact ⟨none, 0, rfl, Nat.le_refl _, by unfold maxLen; omega, .inl rfl, fun _ _ h => (by cases h), hb⟩
    · rintro e w' ⟨rfl, hb⟩
      exact ⟨none, 0, rfl, .inl rfl, hb⟩
  · exact ⟨b2, u2, n2, g, 0, hn, hp, hr⟩
/-- a cell of a list is written -/
theorem LpAt.put {X : World} {f : Nat → Int × Int} {m g o i : Nat} (h : LpAt X f m g o) (hi : i < m) (x : Int) : LpAt (X.setCell ⟨g, o + i * 2, none⟩ (.int .i64 x)) (fun j => if j = i then (x, (f i).2) else f j) m g o := by
  intro j hj
  obtain ⟨h0, h1⟩ := h j hj
  by_cases e : j = i
  · subst e
    simp only [if_pos]
    exact ⟨World.cell?_setCell_same _ _ _ h0, by rw [World.cell?_setCell_other _ ⟨g, o + j * 2, none⟩ ⟨g, o + j * 2 + 1, none⟩ _ (fun e => by injection e; omega)]; exact h1⟩
  · simp only [if_neg e]
    exact ⟨by rw [World.cell?_setCell_other _ ⟨g, o + i * 2, none⟩ ⟨g, o + j * 2, none⟩ _ (fun e => by injection e; omega)]; exact h0, by rw [World.cell?_setCell_other _ ⟨g, o + i * 2, none⟩ ⟨g, o + j * 2 + 1, none⟩ _ (fun e => by injection e; omega)]; exact h1⟩
end Go.Proofs.YtgnfaemnehmgcaaGreatDoor.Cal
