/- Layer 2: the law's bounds, made of the reference's. -/
import Derived.Test.YtmfpnfdoidihcaaNx
namespace Go.Proofs.Ytmfpnfdoidihcaa.Ct
open Go Go.RowKit Go.Shelf
theorem infoBound : (Try.prog.info? 46).map (fun i => (i.zero, i.size, i.bytes)) = some (some (.agg #[.int .i64 0, .int .i64 0, .int .i64 0, .int .i64 0]), 4, 32) := by kernel_rfl
def bndV (l : List Bnd) : Nat → List Value
  | 0 => []
  | k + 1 => bndV l k ++ [.int .i64 (bndAt l k).a, .int .i64 (bndAt l k).b, .int .i64 (bndAt l k).lo, .int .i64 (bndAt l k).hi]
theorem bndV_len (l : List Bnd) : ∀ k, (bndV l k).length = k * 4
  | 0 => rfl
  | k + 1 => by simp only [bndV, List.length_append, bndV_len l k, List.length_cons, List.length_nil]; omega
theorem bndV_at (l : List Bnd) : ∀ (k i : Nat), i < k → (bndV l k)[i * 4]? = some (.int .i64 (bndAt l i).a) ∧ (bndV l k)[i * 4 + 1]? = some (.int .i64 (bndAt l i).b) ∧ (bndV l k)[i * 4 + 2]? = some (.int .i64 (bndAt l i).lo) ∧ (bndV l k)[i * 4 + 3]? = some (.int .i64 (bndAt l i).hi)
  | k + 1, i, h => by
    have hl := bndV_len l k
    unfold bndV
    by_cases e : i = k
    · subst e
      rw [List.getElem?_append_right (by omega), List.getElem?_append_right (by omega), List.getElem?_append_right (by omega), List.getElem?_append_right (by omega), hl, show i * 4 - i * 4 = 0 by omega, show i * 4 + 1 - i * 4 = 1 by omega, show i * 4 + 2 - i * 4 = 2 by omega, show i * 4 + 3 - i * 4 = 3 by omega]
      exact ⟨rfl, rfl, rfl, rfl⟩
    · have ih := bndV_at l k i (by omega)
      rw [List.getElem?_append_left (by omega), List.getElem?_append_left (by omega), List.getElem?_append_left (by omega), List.getElem?_append_left (by omega)]
      exact ih
theorem four_new (w : World) (x y z u : Value) (t : TypeId) : ∀ j v, [x, y, z, u][j]? = some v → (w.alloc (.cells #[x, y, z, u] t)).cell? ((⟨w.heap.size, 0, none⟩ : Addr).add j) = some v := by
  intro j v hj
  match j, hj with
  | 0, hj => simp at hj; subst hj; simp [Addr.add]
  | 1, hj => simp at hj; subst hj; simp [Addr.add]
  | 2, hj => simp at hj; subst hj; simp [Addr.add]
  | 3, hj => simp at hj; subst hj; simp [Addr.add]
/-- the bounds as they are made -/
structure BoAt (w X : World) (v : Value) (l : List Bnd) (k : Nat) : Prop where
  own : X.ownsRow w.heap.size 46 4 v k (bndV l k)
  bel : Below w.heap.size w X
theorem BoAt.more {w X Y : World} {v v' : Value} {l : List Bnd} {k : Nat} {o : Obj} (h : BoAt w X v l k) (hown : Y.ownsRow w.heap.size 46 4 v' (k + 1) (bndV l k ++ [.int .i64 (bndAt l k).a, .int .i64 (bndAt l k).b, .int .i64 (bndAt l k).lo, .int .i64 (bndAt l k).hi])) (hg : (X.alloc o).grownBy Y v.ownBlock) : BoAt w Y v' l (k + 1) :=
  ⟨hown, (h.bel.alloc h.bel.size o).grown hg (by have := h.bel.size; simp; omega) (fun k hk => (World.ownsRow.lt h.own k hk).1)⟩
theorem BoAt.in_ {w X : World} {v : Value} {l : List Bnd} (h : BoAt w X v l l.length) : ∃ p cap, v = .slice p l.length cap ∧ BndsIn X l p := by
  rcases h.own.2 with ⟨rfl, h0⟩ | ⟨g, cap, cur, rfl, _, _, _⟩
  · exact ⟨none, 0, by rw [h0], .inl h0⟩
  · refine ⟨some ⟨g, 0, none⟩, cap, rfl, .inr ⟨g, 0, rfl, fun i hi => ?_⟩⟩
    obtain ⟨h1, h2, h3, h4⟩ := bndV_at l l.length i hi
    have k : ∀ (i : Nat) (v : Value), (bndV l l.length)[i]? = some v → X.cell? ⟨g, i, none⟩ = some v := fun i v hi => by
      have := World.ownsRow.cells h.own (g := g) rfl i v hi
      rwa [show (⟨g, 0, none⟩ : Addr).add i = ⟨g, i, none⟩ by unfold Addr.add; split <;> simp_all] at this
    rw [Nat.zero_add]
    exact ⟨⟨k _ _ h1, k _ _ h2⟩, k _ _ h3, k _ _ h4⟩
def BoRet (l : List Bnd) (w : World) (e : Ending) (w' : World) : Prop := (∃ p' cap', e = .returned (.slice p' l.length cap') ∧ BndsIn w' l p') ∧ Below w.heap.size w w'
set_option maxRecDepth 100000 in
set_option maxHeartbeats 4000000 in
theorem bounds_any (l : List Bnd) (p : Option Addr) (cap : Nat) (w : World) (hl : l.length ≤ 40) (hs : BndsIn w l p) :
    Calls Try.prog 6 #[.slice p l.length cap] w (BoRet l w) := by
  obtain ⟨i0, hi0, hz0, hz1, hz2⟩ := info_parts infoBound
  have HS := Lib.hid hs
  have H0 : Hid (BoAt w w (.slice none 0 0) l 0) := Lib.hid ⟨World.ownsRow_nil _ _ _ _, Below.refl _ _⟩
  clear hs
  go_enter Try.func6, Try.ntmps6
  go_wp2_with fail
  go_loopw [3, 4] (fun s3 s4 wx => ∃ (k : Nat) (v : Value), k ≤ l.length ∧ s3 = v ∧ s4 = .int .i64 (k : Int) ∧ Hid (BoAt w wx v l k)) (fun _ s4 _ => l.length - (intOf s4).toNat)
  case atStart => exact ⟨0, _, Nat.zero_le _, rfl, rfl, H0⟩
  case round =>
    obtain ⟨k, v, hk, rfl, rfl, HB⟩ := hrel
    by_cases hlt : k < l.length
    · have hki : (k : Int) < l.length := by omega
      have HK := Lib.hid hlt
      obtain ⟨b, o, rfl, hi⟩ := (HS.out.below HB.out.bel).resolve_left (by omega)
      obtain ⟨⟨x0, x1⟩, x2, x3⟩ := hi k hlt
      have zx := cell_lt x0
      have w1 : IntKind.i64.wrap ((k : Int) + 1) = (k : Int) + 1 := IntWalk.i64_in _ (by omega)
      clear hi hlt
      go_wp2_with (at_builtin; refine wpList_append_own_at _ rfl (.tmp 11) (.tmp 16) _ rfl w.heap.size 46 i0 (.agg #[.int .i64 0, .int .i64 0, .int .i64 0, .int .i64 0]) 4 32 Try.underlying25 hi0 hz0 hz1 hz2 rfl (by decide) _ k _ rfl (World.ownsRow.alloc HB.out.own _) ⟨wr.heap.size, 0, none⟩ 1 1 [.int .i64 (bndAt l k).a, .int .i64 (bndAt l k).b, .int .i64 (bndAt l k).lo, .int .i64 (bndAt l k).hi] rfl rfl (four_new _ _ _ _ _ _) (by simp [Value.oneCell']) (by unfold maxLen; omega) (by omega) (by have := HB.out.bel.size; simp; omega) ?_; intro v' z1 hown hg _ _; have HB2 := Lib.hid (HB.out.more hown hg); clear hown hg)
      go_roundw
      case rel => exact ⟨k + 1, v', HK.out, rfl, by simp, HB2⟩
      case measure => have := HK.out; simp [intOf]; omega
    · obtain rfl : k = l.length := by omega
      have hki : ¬ ((l.length : Int) < l.length) := by omega
      obtain ⟨p', cap', rfl, hb⟩ := HB.out.in_
      have HI := Lib.hid hb
      clear hb
      go_wp2_with fail
      go_ret
      exact ⟨⟨p', cap', rfl, HI.out⟩, HB.out.bel⟩
end Go.Proofs.Ytmfpnfdoidihcaa.Ct
