/- CounterNets: the bounds and uses that it makes, its comparisons. -/
import Derived.Test.YtlelamjbfjneiaaGb
import Derived.Test.YtlelamjbfjneiaaBo
import Derived.Test.YtlelamjbfjneiaaRf2
import Derived.Test.YtlelamjbfjneiaaNy
import Derived.Test.YtlelamjbfjneiaaNh
namespace Go.Proofs.Ytlelamjbfjneiaa.Ct
open Go Go.RowKit Go.Shelf
attribute [local go_sem] Oper.semAt_some
theorem infoRUse : (Try.prog.info? 40).map (fun i => (i.zero, i.size, i.bytes)) = some (some (.agg #[.int .i64 0, .bool false]), 2, 16) := by kernel_rfl
/-- uses as they are collected, of either type -/
structure UsAt (T : TypeId) (W3 X : World) (v : Value) (u : List (Int × Bool)) (k : Nat) : Prop where
  own : X.ownsRow W3.heap.size T 2 v k (useCells (u.take k))
  bel : Below W3.heap.size W3 X
theorem UsAt.nil (T : TypeId) (W : World) (u : List (Int × Bool)) : UsAt T W W (.slice none 0 0) u 0 := ⟨World.ownsRow_nil _ _ _ _, Below.refl _ _⟩
theorem UsAt.more {T : TypeId} {W3 X Y : World} {v v' : Value} {u : List (Int × Bool)} {k : Nat} {o : Obj} (hk : k < u.length) (h : UsAt T W3 X v u k) (hown : Y.ownsRow W3.heap.size T 2 v' (k + 1) (useCells (u.take k) ++ [.int .i64 (useAt u k).1, .bool (useAt u k).2])) (hg : (X.alloc o).grownBy Y v.ownBlock) : UsAt T W3 Y v' u (k + 1) := by
  refine ⟨?_, (h.bel.alloc h.bel.size o).grown hg (by have := h.bel.size; simp; omega) (fun k hk => (World.ownsRow.lt h.own k hk).1)⟩
  have e : u.take (k + 1) = u.take k ++ [useAt u k] := by
    rw [List.take_add_one, List.getElem?_eq_getElem hk]
    congr 1
    unfold useAt
    rw [List.getElem?_eq_getElem hk]; rfl
  rw [e, useCells_snoc]
  exact hown
theorem UsAt.uses {T : TypeId} {W3 X : World} {v : Value} {u : List (Int × Bool)} (h : UsAt T W3 X v u u.length) : ∃ p cap, v = .slice p u.length cap ∧ UsesIn X u p := by
  have h1 := h.own
  rw [List.take_length] at h1
  rcases h1.2 with ⟨rfl, h0⟩ | ⟨g, cap, cur, rfl, _, _, _, _, _, _⟩
  · exact ⟨none, 0, by rw [h0], .inl h0⟩
  · refine ⟨some ⟨g, 0, none⟩, cap, rfl, .inr ⟨g, 0, rfl, fun i hi => ?_⟩⟩
    obtain ⟨h3, h4⟩ := useCells_at u i hi
    have k : ∀ (i : Nat) (v : Value), (useCells u)[i]? = some v → X.cell? ⟨g, i, none⟩ = some v := fun i v hi => by
      have := World.ownsRow.cells h1 (g := g) rfl i v hi
      rwa [add_plain, Nat.zero_add] at this
    rw [Nat.zero_add]
    exact ⟨k _ _ h3, k _ _ h4⟩
set_option maxRecDepth 100000 in
set_option maxHeartbeats 4000000 in
theorem bounds_far (l : List Bnd) (p : Option Addr) (cap : Nat) (w : World) (hl : l.length ≤ 260) (hs : BndsIn w l p) :
    Calls Try.prog 6 #[.slice p l.length cap] w (BoRet l w) := by
  obtain ⟨i0, hi0, hz0, hz1, hz2⟩ := info_parts infoBound
  have HS := Lib.hid hs
  have H0 : Hid (BoAt w w (.slice none 0 0) l 0) := Lib.hid ⟨World.ownsRow_nil _ _ _ _, Below.refl _ _⟩
  clear hs
  go_enter Try.func6, Try.ntmps6
  go_wp2_with fail
  go_loopw [3, 4] (fun s3 s4 wx => ∃ (k : Nat) (v : Value), k ≤ l.length ∧ s3 = v ∧ s4 = .int .i64 (k : Int) ∧ Hid (BoAt w wx v l k)) (fun _ s4 _ => l.length - (intOf s4).toNat)
  case atStart => exact ⟨0, _, Nat.zero_le _, rfl, rfl, H0⟩
  case round =>
    obtain ⟨k, v, hk, rfl, rfl, HB⟩ := hrel
    by_cases hlt : k < l.length
    · have hki : (k : Int) < l.length := by omega
      have HK := Lib.hid hlt
      obtain ⟨b, o, rfl, hi⟩ := (HS.out.below HB.out.bel).resolve_left (by omega)
      obtain ⟨⟨x0, x1⟩, x2, x3⟩ := hi k hlt
      have zx := cell_lt x0
      have w1 : IntKind.i64.wrap ((k : Int) + 1) = (k : Int) + 1 := IntWalk.i64_in _ (by omega)
      clear hi hlt
      go_wp2_with (at_builtin; refine wpList_append_own_at _ rfl (.tmp 11) (.tmp 16) _ rfl w.heap.size 46 i0 (.agg #[.int .i64 0, .int .i64 0, .int .i64 0, .int .i64 0]) 4 32 Try.underlying25 hi0 hz0 hz1 hz2 rfl (by decide) _ k _ rfl (World.ownsRow.alloc HB.out.own _) ⟨wr.heap.size, 0, none⟩ 1 1 [.int .i64 (bndAt l k).a, .int .i64 (bndAt l k).b, .int .i64 (bndAt l k).lo, .int .i64 (bndAt l k).hi] rfl rfl (four_new _ _ _ _ _ _) (by simp [Value.oneCell']) (by unfold maxLen; omega) (by omega) (by have := HB.out.bel.size; simp; omega) ?_; intro v' z1 hown hg _ _; have HB2 := Lib.hid (HB.out.more hown hg); clear hown hg)
      go_roundw
      case rel => exact ⟨k + 1, v', HK.out, rfl, by simp, HB2⟩
      case measure => have := HK.out; simp [intOf]; omega
    · obtain rfl : k = l.length := by omega
      have hki : ¬ ((l.length : Int) < l.length) := by omega
      obtain ⟨p', cap', rfl, hb⟩ := HB.out.in_
      have HI := Lib.hid hb
      clear hb
      go_wp2_with fail
      go_ret
      exact ⟨⟨p', cap', rfl, HI.out⟩, HB.out.bel⟩
set_option maxRecDepth 100000 in
set_option maxHeartbeats 4000000 in
theorem uses_any (u : List (Int × Bool)) (p : Option Addr) (cap : Nat) (w : World) (hl : u.length ≤ 260) (hs : UsesIn w u p) :
    Calls Try.prog 11 #[.slice p u.length cap] w fun e w' => (∃ p' cap', e = .returned (.slice p' u.length cap') ∧ UsesIn w' u p') ∧ Below w.heap.size w w' := by
  obtain ⟨i0, hi0, hz0, hz1, hz2⟩ := info_parts infoUse
  have HS := Lib.hid hs
  have HL := Lib.hid hl
  have H0 : Hid (UsAt 41 w w (.slice none 0 0) u 0) := Lib.hid (UsAt.nil _ w u)
  clear hs hl
  go_enter Try.func11, Try.ntmps11
  go_wp2_with fail
  go_loopw [3, 4] (fun s3 s4 wx => ∃ (k : Nat) (v : Value), k ≤ u.length ∧ s3 = v ∧ s4 = .int .i64 (k : Int) ∧ Hid (UsAt 41 w wx v u k)) (fun _ s4 _ => u.length - (intOf s4).toNat)
  case atStart => exact ⟨0, _, Nat.zero_le _, rfl, rfl, H0⟩
  case round =>
    obtain ⟨k, v, hk, rfl, rfl, HB⟩ := hrel
    by_cases hlt : k < u.length
    · have hki : (k : Int) < u.length := by omega
      have HK := Lib.hid hlt
      obtain ⟨b, o, rfl, hi⟩ := (HS.out.below HB.out.bel).resolve_left (by omega)
      obtain ⟨x0, x1⟩ := hi k hlt
      have zx := cell_lt x0
      have w1 : IntKind.i64.wrap ((k : Int) + 1) = (k : Int) + 1 := IntWalk.i64_in _ (by have := HL.out; omega)
      clear hi hlt hk
      go_wp2_with (at_builtin; refine wpList_append_own_at _ rfl (.tmp 11) (.tmp 16) _ rfl w.heap.size 41 i0 (.agg #[.int .i64 0, .bool false]) 2 16 Try.underlying34 hi0 hz0 hz1 hz2 rfl (by decide) _ k _ rfl (World.ownsRow.alloc HB.out.own _) ⟨wr.heap.size, 0, none⟩ 1 1 [.int .i64 (useAt u k).1, .bool (useAt u k).2] rfl rfl (two_new _ _ _ _) (by simp [Value.oneCell']) (by have := HK.out; have := HL.out; unfold maxLen; omega) (by have := HK.out; have := HL.out; omega) (by have := HB.out.bel.size; simp; omega) ?_; intro v' z1 hown hg _ _; have HB2 := Lib.hid (HB.out.more HK.out hown hg); clear hown hg)
      go_roundw
      case rel => exact ⟨k + 1, v', HK.out, rfl, by simp, HB2⟩
      case measure => have := HK.out; simp [intOf]; omega
    · obtain rfl : k = u.length := by omega
      have hki : ¬ ((u.length : Int) < u.length) := by omega
      obtain ⟨p', cap', rfl, hb⟩ := HB.out.uses
      have HI := Lib.hid hb
      clear hb
      go_wp2_with fail
      go_ret
      exact ⟨⟨p', ⟨cap', rfl⟩, HI.out⟩, HB.out.bel⟩
set_option maxRecDepth 100000 in
set_option maxHeartbeats 2000000 in
theorem sameLists_nil (p1 p2 : Option Addr) (c1 c2 : Nat) (w : World) :
    Calls Try.prog 9 #[.slice p1 0 c1, .slice p2 0 c2] w fun e w' => e = .returned (.bool true) ∧ Below w.heap.size w w' := by
  go_enter Try.func9, Try.ntmps9
  go_wp2_with fail
  go_loopw [4, 5] (fun s i wr => s = .bool false ∧ i = .int .i64 0 ∧ Hid (Below w.heap.size w wr)) (fun _ i _ => 0)
  case atStart => exact ⟨rfl, rfl, Lib.hid (Below.refl _ _)⟩
  case round =>
    obtain ⟨rfl, rfl, HB⟩ := hrel
    go_wp2_with fail
    go_ret
    exact ⟨rfl, HB.out⟩
/-- a matrix, or none -/
def LstIn (X : World) (f : Nat → Nat → Int) (k : Nat) (p : Option Addr) : Prop := k = 0 ∨ ∃ b, p = some ⟨b, 0, none⟩ ∧ RowsIn X f (fun _ => k) k b 0
theorem LstIn.below {X Y : World} {f : Nat → Nat → Int} {k : Nat} {p : Option Addr} (h : LstIn X f k p) (hb : Below X.heap.size X Y) : LstIn Y f k p := h.imp id fun ⟨b, e, h⟩ => ⟨b, e, h.below hb⟩
theorem sameLists_any (f : Nat → Nat → Int) (k : Nat) (p1 p2 : Option Addr) (c1 c2 : Nat) (w : World) (hk : k ≤ 16) (h1 : LstIn w f k p1) (h2 : LstIn w f k p2) :
    Calls Try.prog 9 #[.slice p1 k c1, .slice p2 k c2] w fun e w' => e = .returned (.bool true) ∧ Below w.heap.size w w' := by
  by_cases h0 : k = 0
  · subst h0; exact sameLists_nil p1 p2 c1 c2 w
  · obtain ⟨b1, rfl, g1⟩ := h1.resolve_left h0
    obtain ⟨b2, rfl, g2⟩ := h2.resolve_left h0
    exact sameLists_yes f (fun _ => k) k b1 0 b2 0 c1 c2 w (by unfold maxLen; omega) g1 g2
/-- what Narrow answers -/
def narE (n : Int) (l : List Bnd) : Int := if netErr n l = 0 then (if (narrowS n.toNat l).2 = true then 0 else 12) else netErr n l
def narK (n : Int) (l : List Bnd) : Nat := if narE n l = 0 then n.toNat else 0
def NarAny (n : Int) (l : List Bnd) (w : World) (e : Ending) (w' : World) : Prop :=
  (∃ p cap, e = .returned (.tuple #[.slice p (narK n l) cap, .int .i64 (narE n l)]) ∧ LstIn w' (fun i => rowR l i n.toNat) (narK n l) p) ∧ Below w.heap.size w w'
theorem net_n {n : Int} {l : List Bnd} (h : netErr n l = 0) : ∃ N : Nat, n = (N : Int) ∧ 1 ≤ N ∧ N ≤ 16 := by
  have hn : 1 ≤ n ∧ n ≤ 16 := by
    by_cases h' : 1 ≤ n ∧ n ≤ 16
    · exact h'
    · unfold netErr at h; rw [if_neg h'] at h; cases h
  exact ⟨n.toNat, by omega, by omega, by omega⟩
theorem narK_le (n : Int) (l : List Bnd) : narK n l ≤ 16 := by
  unfold narK
  by_cases h : narE n l = 0
  · rw [if_pos h]
    by_cases he : netErr n l = 0
    · obtain ⟨N, rfl, h1, h2⟩ := net_n he
      simp; omega
    · unfold narE at h; rw [if_neg he] at h; exact absurd h he
  · rw [if_neg h]; omega
theorem narrow_all (n : Int) (l : List Bnd) (p : Option Addr) (cap : Nat) (w : World) (hl : l.length ≤ maxLen) (hs : BndsIn w l p) :
    Calls Try.prog 7 #[.int .i64 n, .slice p l.length cap] w (NarAny n l w) := by
  by_cases he : netErr n l = 0
  · obtain ⟨N, rfl, h1, h2⟩ := net_n he
    obtain ⟨hn, hlo⟩ := lims_of he
    have hc := calm_all hn.2 hlo
    cases hf : (narrowS N l).2 with
    | false =>
      have e1 : narE N l = 12 := by unfold narE; rw [if_pos he, Int.toNat_natCast, hf]; rfl
      have e2 : narK N l = 0 := by unfold narK; rw [e1]; rfl
      refine (narrow_no N l p cap w hs he hc hf).mono fun e w' h => ?_
      unfold NarAny
      rw [e1, e2]
      exact ⟨⟨none, 0, h.1, .inl rfl⟩, h.2⟩
    | true =>
      have e1 : narE N l = 0 := by unfold narE; rw [if_pos he, Int.toNat_natCast, hf]; rfl
      have e2 : narK N l = N := by unfold narK; rw [e1, if_pos rfl, Int.toNat_natCast]
      refine (narrow_ok N l p cap w hs he hc hf).mono fun e w' ⟨g, bs, h, hm⟩ => ?_
      unfold NarAny
      rw [e1, e2, Int.toNat_natCast]
      refine ⟨⟨some ⟨g, 0, none⟩, N, h, .inr ⟨g, rfl, fun i hi => ⟨some ⟨bs i, 0, none⟩, N, by rw [Nat.zero_add]; exact hm.rows i hi, .inr ⟨bs i, 0, rfl, fun j hj => ?_⟩, (show N ≤ maxLen by unfold maxLen; omega)⟩⟩⟩, hm.bel⟩
      show w'.cell? _ = some (.int .i64 (rowR l i N j))
      rw [Nat.zero_add, rows_yes hn hlo hf hi hj]
      exact (hm.at_ i j hi hj).1
  · have e1 : narE n l = netErr n l := if_neg he
    have e2 : narK n l = 0 := by unfold narK; rw [e1, if_neg he]
    refine (narrow_err n l p cap w hl hs he).mono fun e w' h => ?_
    unfold NarAny
    rw [e1, e2]
    exact ⟨⟨none, 0, h.1, .inl rfl⟩, h.2⟩
theorem rnarrow_all (n : Int) (l : List Bnd) (p : Option Addr) (cap : Nat) (w : World) (hl : l.length ≤ maxLen) (hs : BndsIn w l p) :
    Calls Try.prog 8 #[.int .i64 n, .slice p l.length cap] w (NarAny n l w) := by
  by_cases he : netErr n l = 0
  · obtain ⟨N, rfl, h1, h2⟩ := net_n he
    refine (rnarrow_ok N l p cap w hs he).mono fun e w' ⟨h, hb⟩ => ?_
    unfold NarAny
    rcases h with ⟨hf, h⟩ | ⟨hf, g, cap, h, hr⟩
    · have e1 : narE N l = 12 := by unfold narE; rw [if_pos he, Int.toNat_natCast, hf]; rfl
      have e2 : narK N l = 0 := by unfold narK; rw [e1]; rfl
      rw [e1, e2]
      exact ⟨⟨none, 0, h, .inl rfl⟩, hb⟩
    · have e1 : narE N l = 0 := by unfold narE; rw [if_pos he, Int.toNat_natCast, hf]; rfl
      have e2 : narK N l = N := by unfold narK; rw [e1, if_pos rfl, Int.toNat_natCast]
      rw [e1, e2, Int.toNat_natCast]
      exact ⟨⟨some ⟨g, 0, none⟩, cap, h, .inr ⟨g, rfl, hr⟩⟩, hb⟩
  · have e1 : narE n l = netErr n l := if_neg he
    have e2 : narK n l = 0 := by unfold narK; rw [e1, if_neg he]
    refine (rnarrow_err n l p cap w hl hs he).mono fun e w' h => ?_
    unfold NarAny
    rw [e1, e2]
    exact ⟨⟨none, 0, h.1, .inl rfl⟩, h.2⟩
/-- what Contradict answers, by what Narrow does -/
def conE (n : Int) (l : List Bnd) : Int := if narE n l = 0 then 4 else if narE n l = 12 then 0 else narE n l
theorem net_not {n : Int} {l : List Bnd} : netErr n l ≠ 12 := by
  unfold netErr
  split
  · split
    · split <;> decide
    · decide
  · decide
theorem conof_len {n : Nat} {l : List Bnd} {u : List (Int × Bool)} (h : ConOf n l u) : u.length ≤ n := by
  rcases h with ⟨rfl, -⟩ | ⟨-, k, c, -, -, h2, -, -, rfl⟩
  · simp
  · rw [cycK_len]; exact h2
theorem contradict_all (n : Int) (l : List Bnd) (p : Option Addr) (cap : Nat) (w : World) (hl : l.length ≤ maxLen) (hs : BndsIn w l p) :
    Calls Try.prog 13 #[.int .i64 n, .slice p l.length cap] w fun e w' => (∃ (xs : List (Int × Bool)) (px : Option Addr) (cx : Nat), e = .returned (.tuple #[.slice px xs.length cx, .int .i64 (conE n l)]) ∧ UsesIn w' xs px ∧ (xs.length : Int) ≤ max n 0 ∧ xs.length ≤ 16 ∧ (conE n l ≠ 0 → xs = []) ∧ (conE n l = 0 → refErr n l xs = 0)) ∧ Below w.heap.size w w' := by
  by_cases he : netErr n l = 0
  · obtain ⟨N, rfl, h1, h2⟩ := net_n he
    obtain ⟨hn, hlo⟩ := lims_of he
    refine (contradict_any N l p cap w hs he).mono fun e w' ⟨⟨u, px, cx, h, hu, hc, _, _⟩, hb⟩ => ⟨⟨u, px, cx, ?_, hu, ?_, ?_, ?_, ?_⟩, hb⟩
    · have hi := con_iff hn hlo hc
      cases hf : (narrowS N l).2 with
      | true =>
        have e1 : narE N l = 0 := by unfold narE; rw [if_pos he, Int.toNat_natCast, hf]; rfl
        have hu0 := hi.2 hf
        rw [h]; subst hu0
        have e3 : conE N l = 4 := by unfold conE; rw [e1]; rfl
        rw [e3]; rfl
      | false =>
        have e1 : narE N l = 12 := by unfold narE; rw [if_pos he, Int.toNat_natCast, hf]; rfl
        have e3 : conE N l = 0 := by unfold conE; rw [e1]; rfl
        have hne : u.length ≠ 0 := fun e => by
          have := hi.1 (List.length_eq_zero_iff.1 e)
          rw [hf] at this; cases this
        rw [h, e3, if_neg hne]
    · have := conof_len hc; omega
    · have := conof_len hc; omega
    · intro hne
      have hi := con_iff hn hlo hc
      cases hf : (narrowS N l).2 with
      | true => exact hi.2 hf
      | false =>
        have e1 : narE N l = 12 := by unfold narE; rw [if_pos he, Int.toNat_natCast, hf]; rfl
        have e3 : conE N l = 0 := by unfold conE; rw [e1]; rfl
        exact absurd e3 hne
    · intro h0
      have hi := con_iff hn hlo hc
      cases hf : (narrowS N l).2 with
      | true =>
        have e1 : narE N l = 0 := by unfold narE; rw [if_pos he, Int.toNat_natCast, hf]; rfl
        have e3 : conE N l = 4 := by unfold conE; rw [e1]; rfl
        rw [e3] at h0; cases h0
      | false =>
        have hne : u ≠ [] := fun e => by
          have := hi.1 e
          rw [hf] at this; cases this
        obtain ⟨a1, a2, -⟩ := con_all hn hlo hc hne
        unfold refErr
        rw [if_pos he, if_pos (by omega), if_pos a2]
  · have e1 : narE n l = netErr n l := if_neg he
    have e3 : conE n l = netErr n l := by unfold conE; rw [e1, if_neg he, if_neg net_not]
    refine (contradict_err n l p cap w hl hs he).mono fun e w' h => ?_
    refine ⟨⟨[], none, 0, ?_, .inl rfl, ?_, ?_, ?_, ?_⟩, h.2⟩
    · rw [e3]; exact h.1
    · simp only [List.length_nil]; omega
    · simp
    · intro _; rfl
    · intro h0; exact absurd (e3.symm.trans h0) he
end Go.Proofs.Ytlelamjbfjneiaa.Ct
